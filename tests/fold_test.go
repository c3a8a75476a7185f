package tests

import (
	"fmt"
	"maps"
	"math"
	"reflect"
	"slices"
	"strings"
	"testing"

	"loop.example/g00187/impl"
)

// forever is a number that never comes.
const forever = "app fix f 0 f i i fn x i app v f 0 v x 0 v f 0 n 1"

// pureTexts are Pure, and each has a type.
var pureTexts = []string{
	"n 7", "n -1000000", "t", "u", "nil i", "nil f v0 v1", "fn x i v x 0", "fn x i raise b n 1", "fn x i op + n 1000000 n 1", "fn x i " + forever,
	"pair n 1 t", "pair fn x i raise i n 1 nil b", "cons n 1 nil i", "cons n 1 cons n 2 nil i", "pair pair n 1 u cons pair n 1 t nil p i b", "cons pair nil i fn x i n 1 nil p l i f i i",
}

// otherTexts are not Pure, and folding leaves them as they are; most of them raise, or never end. Each has a type.
var otherTexts = []string{
	"raise i n 5", "raise b op + n 1 n 1000000", "op + n 1000000 n 1", "op - n -1000000 n 1", "op * n 1000 n 1001", forever, "app fn x i v x 0 n 1", "app fn x i raise i v x 0 n 3",
	"fst app fn x i pair v x 0 t n 1", "snd app fn x i pair v x 0 t n 1", "fst pair n 1 raise i n 2", "snd pair raise i n 2 n 1", "fst pair raise i n 2 " + forever, "case h r cons n 1 nil i n 2 v h 0",
	"try e raise i n 5 v e 0", "try e app fn x i v x 0 n 1 n 2", "let y 0 n 1 fn x i v y 0", "let y 0 raise i n 3 n 1", "let y 1 nil v0 n 1", "let y 0 app fn x i v x 0 n 1 v y 0",
	"fix f 0 f i i fn x i v x 0 v f 0", "fix f 0 f i i fn x i v x 0 n 1", "if app fn x i t n 1 n 2 n 3", "if raise b n 1 n 2 n 3",
	"pair n 1 raise i n 5", "pair raise i n 5 n 1", "cons raise i n 5 nil i", "cons n 1 cons n 2 raise l i n 5", "cons n 1 cons op + n 1000000 n 1 nil i", "pair pair n 1 pair nil i " + forever + " t", "pair pair pair app fn x i v x 0 n 1 n 2 n 3 n 4",
}

// Each rule alone, and beside it what is just not so.
func TestFoldOps(t *testing.T) {
	for text, want := range map[string]string{
		"op + n 1 n 2": "n 3", "op - n 1 n 2": "n -1", "op * n 3 n 4": "n 12", "op < n 1 n 2": "t", "op < n 2 n 1": "u", "op < n 2 n 2": "u", "op = n 2 n 2": "t", "op = n 2 n -2": "u", "op = n 1 n 2": "u",
		"op + n 0 n 0": "n 0", "op - n 0 n 0": "n 0", "op - n 5 n 5": "n 0", "op + n -5 n 5": "n 0", "op * n 0 n -7": "n 0", "op * n -3 n 4": "n -12", "op * n -3 n -4": "n 12", "op < n -2 n -1": "t", "op < n -1 n -2": "u", "op < n -1 n 0": "t",
		// at 10^6 and -10^6 exactly
		"op + n 999999 n 1": "n 1000000", "op + n 500000 n 500000": "n 1000000", "op + n -999999 n -1": "n -1000000", "op + n 1000000 n 0": "n 1000000", "op + n 0 n -1000000": "n -1000000", "op + n 1000000 n -1000000": "n 0",
		"op - n 999999 n -1": "n 1000000", "op - n -999999 n 1": "n -1000000", "op - n 0 n 1000000": "n -1000000", "op - n 0 n -1000000": "n 1000000", "op - n 1000000 n 1000000": "n 0",
		"op * n 1000 n 1000": "n 1000000", "op * n -1000 n 1000": "n -1000000", "op * n 1000 n -1000": "n -1000000", "op * n -1000 n -1000": "n 1000000", "op * n 1000000 n -1": "n -1000000", "op * n 1 n 1000000": "n 1000000", "op * n 1000000 n 0": "n 0", "op * n 999 n 1001": "n 999999",
		"op < n -1000000 n 1000000": "t", "op < n 1000000 n -1000000": "u", "op = n 1000000 n 1000000": "t", "op = n -1000000 n 1000000": "u", "op < n 1000000 n 1000000": "u",
	} {
		folded(t, text, want)
	}
	for _, text := range []string{
		// one beyond, and far
		"op + n 1000000 n 1", "op + n 1 n 1000000", "op + n -1000000 n -1", "op + n 500000 n 500001", "op + n 1000000 n 1000000", "op + n -1000000 n -1000000", "op - n 1000000 n -1", "op - n -1000000 n 1", "op - n 1 n -1000000", "op - n -1 n 1000000", "op - n -1000000 n 1000000",
		"op * n 1000 n 1001", "op * n -1000 n 1001", "op * n 1001 n -1000", "op * n -1001 n -1000", "op * n 1000000 n 2", "op * n 1000000 n 1000000", "op * n -1000000 n 1000000", "op * n -1000000 n -1000000", "op * n 101 n 9901",
		// of one number, or none
		"op + n 1 v x 0", "op + v x 0 n 1", "op < v x 0 v x 0", "op = v x 0 v x 0", "op - v x 0 v x 0", "op * v x 0 n 0", "op * n 0 v x 0", "op + n 0 v x 0", "op - v x 0 n 0", "op * n 1 v x 0",
		"op + n 1 t", "op + u n 1", "op = t t", "op = nil i nil i", "op < pair n 1 n 2 n 3", "op + n 1 raise i n 2", "op + raise i n 1 n 2", "op * n 0 " + forever, "op + n 1 app v f 0 n 2", "op = fn x i n 1 n 1", "op + op + v x 0 n 1 n 2", "op - n 1 op * n 1000 n 1001",
	} {
		stays(t, text)
	}
}

// Every op of numbers all around the greatest ones, and around 0.
func TestFoldEachOpOfManyNumbers(t *testing.T) {
	numbers := []int{-1000000, -999999, -999001, -1001, -1000, -999, -2, -1, 0, 1, 2, 999, 1000, 1001, 999001, 999999, 1000000}
	met := map[int]int{}
	for op := 1; op <= 5; op++ {
		for _, a := range numbers {
			for _, b := range numbers {
				term := tmOp(op, tmNum(a), tmNum(b))
				truth := map[bool]int{true: 1}
				n := []int{0, a + b, a - b, a * b, truth[a < b], truth[a == b]}[op]
				want := tmNum(n)
				if op > 3 {
					want = tmBool(n)
				} else if n > 1000000 || n < -1000000 {
					want = term
				}
				met[want.K]++
				foldedTo(t, term, want)
			}
		}
	}
	if met[impl.TmNum] < 300 || met[impl.TmBool] < 500 || met[impl.TmOp] < 100 {
		t.Error("too few", met)
	}
}

func TestFoldIf(t *testing.T) {
	for text, want := range map[string]string{
		"if t n 1 n 2": "n 1", "if u n 1 n 2": "n 2", "if t v x 0 v y 0": "v x 0", "if u v x 0 v y 0": "v y 0", "if t n 1 raise i n 2": "n 1", "if u raise i n 2 n 1": "n 1", "if u n 1 raise i n 2": "raise i n 2", "if t raise i n 1 raise i n 2": "raise i n 1",
		"if t n 1 " + forever: "n 1", "if u " + forever + " n 1": "n 1", "if u n 1 " + forever: forever, "if op < n 1 n 2 n 3 n 4": "n 3", "if op = n 1 n 2 n 3 n 4": "n 4", "if if u t u n 1 n 2": "n 2", "if fst pair t n 1 n 1 n 2": "n 1",
		// without a type
		"if t n 1 u": "n 1", "if u n 1 nil i": "nil i", "if t app n 1 n 2 n 3": "app n 1 n 2",
	} {
		folded(t, text, want)
	}
	for _, text := range []string{
		"if v x 0 n 1 n 2", "if v x 0 n 1 n 1", "if n 1 n 2 n 3", "if n 0 n 2 n 3", "if nil i n 1 n 2", "if pair t u n 1 n 2", "if fn x b t n 1 n 2", "if raise b n 1 n 2 n 3", "if op < v x 0 n 1 n 2 n 3", "if op < raise i n 1 n 2 n 3 n 4", "if app v f 0 n 1 n 2 n 3",
		"if op < op + n 1000000 n 1 n 1 n 2 n 3", "if try e app v f 0 n 1 u n 2 n 3", "if let x 1 t v x 1 i n 2 n 3", "if fst pair t raise i n 1 n 2 n 3",
	} {
		stays(t, text)
	}
}

// The one stands there for both, whatever it is; the other has to be Pure.
func TestFoldParts(t *testing.T) {
	ones := slices.Concat(pureTexts, otherTexts, []string{"v x 0", "v x 2 i l b", "app v f 0 n 1"})
	for _, one := range ones {
		for _, other := range append([]string{"v y 0", "v y 1 l i", "pair v x 0 cons v y 0 v x 0"}, pureTexts...) {
			folded(t, "fst pair "+one+" "+other, one)
			folded(t, "snd pair "+other+" "+one, one)
		}
		for _, other := range append([]string{"app v f 0 n 1", "pair v x 0 app v f 0 n 1", "fst v x 0", "op + v x 0 n 1"}, otherTexts...) {
			stays(t, "fst pair "+one+" "+other)
			stays(t, "snd pair "+other+" "+one)
		}
	}
	for text, want := range map[string]string{
		"fst pair n 1 n 2": "n 1", "snd pair n 1 n 2": "n 2", "fst pair raise i n 1 n 2": "raise i n 1", "snd pair n 1 raise i n 2": "raise i n 2", "fst pair pair n 1 n 2 n 3": "pair n 1 n 2", "fst fst pair pair n 1 n 2 n 3": "n 1", "snd fst pair pair n 1 n 2 n 3": "n 2", "snd snd pair n 1 pair n 2 n 3": "n 3",
		"fst pair n 1 op + n 1 n 1": "n 1", "fst pair n 1 if t n 1 raise i n 2": "n 1", "snd pair try e n 1 n 2 n 3": "n 3", "fst if t pair n 1 n 2 v x 0": "n 1", "fst let x 0 n 1 pair n 2 n 3": "n 2", "snd pair fst pair n 1 raise i n 2 n 3": "snd pair fst pair n 1 raise i n 2 n 3", "fst pair fst pair n 1 n 2 raise i n 3": "fst pair n 1 raise i n 3",
	} {
		folded(t, text, want)
	}
	// of what is no pair, or not yet one
	for _, text := range []string{"fst v x 0", "snd v x 0", "fst n 1", "snd nil i", "fst cons n 1 nil i", "snd cons n 1 nil i", "fst fn x i pair n 1 n 2", "fst app v f 0 n 1", "fst raise p i i n 1", "fst let x 0 raise i n 1 pair n 2 n 3", "fst if v x 0 pair n 1 n 2 pair n 1 n 2", "fst try e raise p i i n 1 pair n 1 n 2", "snd let x 1 n 1 pair n 2 n 3", "pair fst v x 0 snd v x 0"} {
		stays(t, text)
	}
}

func TestFoldCase(t *testing.T) {
	for text, want := range map[string]string{
		"case h r nil i n 5 v h 0": "n 5", "case h r nil i raise i n 1 v h 0": "raise i n 1", "case h r nil i n 5 raise i n 1": "n 5", "case h r nil f i i v x 0 v r 0": "v x 0", "case h r nil i v h 0 v h 0": "v h 0", "case h r nil i v r 0 n 1": "v r 0", "case h r nil i " + forever + " n 1": forever, "case h r nil i n 1 " + forever: "n 1",
		"case h r if t nil i cons n 1 nil i n 5 v h 0": "n 5", "case h r snd pair n 1 nil b n 5 n 6": "n 5", "case h r let x 0 n 1 nil i n 5 n 6": "n 5", "case h r try e nil i cons v e 0 nil i n 5 n 6": "n 5", "case h r case k s nil b nil i cons n 1 nil i n 5 n 6": "n 5",
	} {
		folded(t, text, want)
	}
	for _, text := range []string{
		"case h r cons n 1 nil i n 5 v h 0", "case h r cons n 1 nil i n 5 n 5", "case h r v x 0 n 5 v h 0", "case h r cons raise i n 1 nil i n 5 n 6", "case h r n 1 n 5 n 6", "case h r t n 5 n 6", "case h r fn x i nil i n 5 n 6", "case h r pair nil i nil i n 5 n 6", "case h r raise l i n 1 n 5 n 6", "case h r app v f 0 n 1 n 5 n 6", "case h r let x 0 raise i n 1 nil i n 5 n 6", "case h r let x 2 n 1 nil i n 5 n 6", "case h r try e raise l i n 1 nil i n 5 n 6", "case h r fst pair nil i raise i n 1 n 5 n 6",
	} {
		stays(t, text)
	}
}

func TestFoldLet(t *testing.T) {
	for _, is := range append([]string{"v y 0", "v y 2 i b", "v x 0", "cons v y 0 v z 0"}, pureTexts...) {
		for _, in := range slices.Concat(pureTexts, otherTexts, []string{"v y 0", "app v y 0 v z 0"}) {
			folded(t, "let w 0 "+is+" "+in, in)
			folded(t, "let xy 0 "+is+" fn x i pair v x 0 "+in, "fn x i pair v x 0 "+in)
			// whose S is free where it holds
			stays(t, "let w 0 "+is+" pair v w 0 "+in)
			stays(t, "let w 0 "+is+" pair "+in+" v w 0")
			// that has type variables
			stays(t, "let w 1 "+is+" "+in)
			stays(t, "let w 2 "+is+" "+in)
		}
	}
	for _, is := range append([]string{"app v f 0 n 1", "fst v y 0", "op + v y 0 n 1"}, otherTexts...) {
		stays(t, "let w 0 "+is+" n 1")
		stays(t, "let w 0 "+is+" v w 0")
		stays(t, "let w 1 "+is+" n 1")
	}
}

func TestFoldTry(t *testing.T) {
	for _, done := range append([]string{"v e 0", "v y 0", "raise i v e 0"}, otherTexts...) {
		for _, tried := range append([]string{"v y 0", "v e 0", "v e 1 i", "pair v y 0 v e 0"}, pureTexts...) {
			folded(t, "try e "+tried+" "+done, tried)
		}
		for _, tried := range append([]string{"app v f 0 n 1", "fst v y 0", "op + v y 0 n 1", "case h r v y 0 n 1 n 2"}, otherTexts...) {
			stays(t, "try e "+tried+" "+done)
		}
	}
	for text, want := range map[string]string{
		"try e op + n 1 n 2 n 4": "n 3", "try e op + n 1000000 n 1 n 4": "try e op + n 1000000 n 1 n 4", "try e if t n 1 raise i n 2 v e 0": "n 1", "try e if u n 1 raise i n 2 v e 0": "try e raise i n 2 v e 0", "try e let x 0 n 1 n 2 v e 0": "n 2", "try e try d n 1 v d 0 v e 0": "n 1", "try e try d raise i n 1 v d 0 v e 0": "try e try d raise i n 1 v d 0 v e 0",
		"try e raise i n 1 op + v e 0 op + n 1 n 2": "try e raise i n 1 op + v e 0 n 3", "try e fst pair n 1 n 2 v e 0": "n 1", "try e fst pair n 1 raise i n 2 v e 0": "try e fst pair n 1 raise i n 2 v e 0",
	} {
		folded(t, text, want)
	}
}

// What has no rule stays, and its parts are folded.
func TestFoldWithinEachKind(t *testing.T) {
	part, small := "if t op + n 1 n 2 raise i n 4", "n 3"
	for _, text := range []string{
		"fn x i #", "app # v f 0", "app v f 0 #", "app fn x i # n 1", "app # #", "let x 0 # v x 0", "let x 0 v f 0 pair v x 0 #", "let x 1 # v x 1 b", "let x 2 n 1 #", "let x 0 raise i # #", "fix f 0 f i i fn x i # app v f 0 n 1", "fix f 1 f v0 i fn x v0 # v f 1 i", "fix f 0 f i i fn x i v x 0 #", "fix f 2 i fn x i # #",
		"if v x 0 # n 1", "if v x 0 n 1 #", "if v x 0 # #", "if # n 1 n 2", "pair # n 1", "pair n 1 #", "pair # #", "fst #", "snd #", "fst pair # raise i #", "snd pair raise i # #", "cons # nil i", "cons n 1 #", "cons # cons # nil i", "case h r v x 0 # n 1", "case h r v x 0 n 1 #", "case h r # n 1 n 2", "case h r cons # nil i # #",
		"op + # v x 0", "op - v x 0 #", "op * n 1000000 #", "op * # n 1000000", "op < v x 0 #", "op = # v x 0", "raise i #", "raise l b op + v x 0 #", "try e raise i # n 1", "try e raise i n 1 #", "try e app v f 0 # #", "fst snd fst #", "raise i raise b raise i #",
	} {
		folded(t, filledAll(text, part), filledAll(text, small))
		stays(t, filledAll(text, small))
		stays(t, filledAll(text, "v x.1 0"))
	}
	kinds := map[int]bool{}
	for _, c := range kindCases() {
		want, _ := plainFold(c.term)
		foldedTo(t, c.term, want)
		kinds[c.term.K] = true
	}
	if len(kinds) != 17 {
		t.Error("too few kinds", kinds)
	}
}

// Each of A first, then the node itself: whatever the parts fold to is asked, and once is enough, however deep.
func TestFoldOrder(t *testing.T) {
	for text, want := range map[string]string{
		"let x 0 n 1 if t n 4 v x 0": "n 4", "let x 0 n 1 let y 0 v x 0 n 5": "n 5", "let x 0 n 1 let y 0 v x 0 v y 0": "let x 0 n 1 let y 0 v x 0 v y 0", "let x 0 let y 0 n 1 n 2 n 3": "n 3", "let x 0 n 1 fst pair n 2 v x 0": "n 2", "let x 0 n 1 try e n 2 v x 0": "n 2", "let x 0 n 1 case h r nil i n 2 v x 0": "n 2", "let x 0 op + n 1 n 2 if t n 4 v x 0": "n 4",
		"let a 0 n 1 let b 0 v a 0 let c 0 v b 0 let d 0 v c 0 n 9": "n 9", "let a 0 n 1 let b 0 v a 0 let c 0 v b 0 if u v c 0 n 9": "n 9", "let a 0 n 1 let b 0 v a 0 let c 0 v b 0 if t v b 0 v c 0": "let a 0 n 1 let b 0 v a 0 v b 0",
		"fst pair if u n 1 op + n 1 n 1 fn y i n 1": "n 2", "if op < op * n 2 n 3 op + n 3 n 4 if op = n 1 n 1 n 5 n 6 n 7": "n 5", "op + if t n 1 n 2 fst pair n 3 n 4": "n 4", "op * try e op + n 1 n 1 n 9 snd pair n 1 let x 0 n 1 n 5": "n 10", "try e fst pair op + n 1 n 2 if t n 1 raise i n 2 v e 0": "n 3",
		"case h r fst pair nil i op < n 1 n 2 try e op - n 1 n 2 v e 0 v h 0": "n -1", "snd pair pair op + n 1 n 1 if t t u cons op + n 1 n 2 nil i": "cons n 3 nil i", "fst pair n 1 let x 0 n 1 let y 0 v x 0 pair n 1 if u v y 0 n 2": "n 1",
		// what is not known within keeps what is around it
		"op + op + op + n 1 v x 0 n 2 n 3": "op + op + op + n 1 v x 0 n 2 n 3", "op + op + op + n 1 n 2 v x 0 n 3": "op + op + n 3 v x 0 n 3", "if if v x 0 t u n 1 n 2": "if if v x 0 t u n 1 n 2", "fst fst pair pair n 1 raise i n 2 n 3": "fst pair n 1 raise i n 2", "fst snd pair raise i n 1 pair n 2 n 3": "fst snd pair raise i n 1 pair n 2 n 3",
		"op + op * n 1000 n 1000 n 1": "op + n 1000000 n 1", "op - op + n 1000000 n 1 n 1": "op - op + n 1000000 n 1 n 1", "op - op * n 1000 n 1000 n 1": "n 999999", "if op < n 1000000 op + n 1000000 n 1 n 1 n 2": "if op < n 1000000 op + n 1000000 n 1 n 1 n 2",
	} {
		folded(t, text, want)
	}
	deepest := []struct {
		text, end, want string
	}{
		{"op + # n 1", "n 0", "n 23"}, {"op + n 1 #", "n 0", "n 23"}, {"op * # n 2", "n 1", ""}, {"if t # n 2", "n 5", "n 5"}, {"if u n 2 #", "n 5", "n 5"}, {"fst pair # n 1", "n 5", ""}, {"let x 0 n 1 #", "n 5", "n 5"}, {"let x 0 # n 7", "n 5", "n 7"}, {"let x 0 # n 7", "raise i n 1", ""},
		{"try e # n 7", "n 5", "n 5"}, {"try e # v e 0", "raise i n 1", ""}, {"case h r nil i # n 1", "n 5", "n 5"}, {"op - # n -1", "n 999999", ""}, {"pair n 1 #", "op + n 1 n 1", ""}, {"fn x i #", "if t n 1 v x 0", ""}, {"if # u t", "t", "u"}, {"op < n 1 #", "n 1", ""}, {"let x 0 v x 0 #", "v x 0", ""}, {"snd pair raise i n 1 #", "op + n 1 n 2", ""}, {"app v f 0 #", "op = n 1 n 1", ""},
	}
	for _, c := range deepest {
		text := c.end
		for range 30 {
			if next := strings.Replace(c.text, "#", text, 1); impl.TermOk(mustTerm(next)) {
				text = next
			}
		}
		if term := parsedTerm(t, text); plainDepth(term) < 23 {
			t.Error("the test's own depth", text)
		}
		if c.want != "" {
			folded(t, text, c.want)
		} else {
			asPlainFold(t, parsedTerm(t, text))
		}
	}
}

// mustTerm is the zero Term of a text that is none.
func mustTerm(text string) impl.Term {
	term, _ := impl.ParseTerm(text)
	return term
}

// One Fold leaves nothing to fold; so FoldAll tells the same, and folding what is folded changes nothing, in terms as great as can be, too.
func TestFoldOfTheGreatestTerms(t *testing.T) {
	for text, count := range map[string]int{"op + # #": 150, "if op = n 1 n 1 # #": 100, "fst pair # #": 100, "let x 0 # #": 100, "try e # #": 100, "case h r nil i # #": 100, "pair # #": 149, "op * # #": 149} {
		for _, end := range []string{"n 1", "op + n 1 n 1", "raise i n 1", "v y 0", "n 3"} {
			term := mustTerm(end)
			for impl.TermOk(mustTerm(filledAll(text, plainTermText(term)))) {
				term = mustTerm(filledAll(text, plainTermText(term)))
			}
			// no more than one of its ends is put for another, until it is as great as can be
			for grown := true; grown; {
				grown = false
				for _, n := range plainNodesIn(&term) {
					kept := *n.t
					if len(kept.A) == 0 {
						*n.t = mustTerm(filledAll(text, end))
					}
					if len(kept.A) == 0 && impl.TermOk(term) {
						grown = true
						break
					}
					*n.t = kept
				}
			}
			if nodes := impl.NodesOf(term); nodes < count-10 {
				t.Error("the test's own term", text, end, nodes)
			}
			asPlainFold(t, term)
		}
	}
	for _, nodes := range []int{148, 149, 150} {
		asPlainFold(t, sumOfNodes(nodes))
		asPlainFold(t, termOfNodes(nodes))
	}
	foldedTo(t, onesAdded(75), tmNum(75))
	asPlainFold(t, mostBinders("x", "y"))
	asPlainFold(t, deepestLets("x", "y"))
}

// Of names that hide each other the one that is meant counts.
func TestFoldNames(t *testing.T) {
	for text, want := range map[string]string{
		// around a let of the same name
		"let x 0 n 1 let x 0 raise i n 2 v x 0": "let x 0 raise i n 2 v x 0", "let x 0 n 1 let x 0 n 2 v x 0": "let x 0 n 2 v x 0", "let x 0 n 1 let x 0 v x 0 v x 0": "let x 0 n 1 let x 0 v x 0 v x 0", "let x 0 n 1 let x 0 v x 0 n 3": "n 3", "let x 0 n 1 let x 0 op + v x 0 n 1 v x 0": "let x 0 n 1 let x 0 op + v x 0 n 1 v x 0", "let x 0 n 1 let x 0 n 2 let x 0 n 3 v x 0": "let x 0 n 3 v x 0",
		"let x 0 n 1 let y 0 n 2 v x 0": "let x 0 n 1 v x 0", "let x 0 n 1 let y 0 n 2 v y 0": "let y 0 n 2 v y 0", "let x 0 n 1 pair let x 0 n 2 v x 0 v x 0": "let x 0 n 1 pair let x 0 n 2 v x 0 v x 0", "let x 0 n 1 pair let x 0 n 2 v x 0 v y 0": "pair let x 0 n 2 v x 0 v y 0", "let x 0 v x 0 v y 0": "v y 0", "let x 0 v x 0 v x 0": "let x 0 v x 0 v x 0", "let x 0 n 1 let x 1 n 2 v x 1 i": "let x 1 n 2 v x 1 i", "let x 0 n 1 let x 1 v x 0 v x 1 i": "let x 0 n 1 let x 1 v x 0 v x 1 i",
		// bound by each other kind, where it binds and where it does not
		"let x 0 n 1 fn x i v x 0": "fn x i v x 0", "let x 0 n 1 fn y i v x 0": "let x 0 n 1 fn y i v x 0", "let x 0 n 1 app fn x i v x 0 v x 0": "let x 0 n 1 app fn x i v x 0 v x 0", "let x 0 n 1 app fn x i v x 0 n 2": "app fn x i v x 0 n 2",
		"let x 0 n 1 fix x 0 f i i fn y i app v x 0 v y 0 app v x 0 n 1": "fix x 0 f i i fn y i app v x 0 v y 0 app v x 0 n 1", "let x 0 n 1 fix f 0 f i i fn x i app v f 0 v x 0 app v f 0 n 1": "fix f 0 f i i fn x i app v f 0 v x 0 app v f 0 n 1", "let x 0 n 1 fix f 0 f i i fn x i app v f 0 v x 0 app v f 0 v x 0": "let x 0 n 1 fix f 0 f i i fn x i app v f 0 v x 0 app v f 0 v x 0", "let x 0 n 1 fix f 0 f i i fn y i v x 0 n 1": "let x 0 n 1 fix f 0 f i i fn y i v x 0 n 1",
		"let x 0 n 1 case x y v z 0 n 1 v x 0": "case x y v z 0 n 1 v x 0", "let x 0 n 1 case y x v z 0 n 1 v x 0": "case y x v z 0 n 1 v x 0", "let x 0 n 1 case x y v x 0 n 1 v x 0": "let x 0 n 1 case x y v x 0 n 1 v x 0", "let x 0 n 1 case x y v z 0 v x 0 v x 0": "let x 0 n 1 case x y v z 0 v x 0 v x 0", "let x 0 n 1 case y x v z 0 v x 0 n 2": "let x 0 n 1 case y x v z 0 v x 0 n 2", "let x 0 n 1 case h r v z 0 n 1 v x 0": "let x 0 n 1 case h r v z 0 n 1 v x 0",
		"let x 0 n 1 try x raise i n 2 v x 0": "try x raise i n 2 v x 0", "let x 0 n 1 try x raise i v x 0 n 2": "let x 0 n 1 try x raise i v x 0 n 2", "let x 0 n 1 try e raise i n 2 v x 0": "let x 0 n 1 try e raise i n 2 v x 0", "let x 0 n 1 try x app v f 0 n 1 v x 0": "try x app v f 0 n 1 v x 0",
		// a name that is told for the last time in what is left out
		"let x 0 n 1 let y 0 v x 0 n 2": "n 2", "let x 0 n 1 fst pair n 2 v x 0": "n 2", "let x 0 n 1 if t n 2 v x 0": "n 2", "let x 0 n 1 try e n 2 v x 0": "n 2", "let x 0 n 1 case h r nil i n 2 v x 0": "n 2", "let x 0 n 1 snd pair fn y i v x 0 fn x i v x 0": "fn x i v x 0", "let x 0 n 1 if u v x 0 if t n 5 v x 0": "n 5", "fn x i if t n 1 v x 0": "fn x i n 1",
		// names that are nearly the same
		"let x 0 n 1 v xx 0": "v xx 0", "let xx 0 n 1 v x 0": "v x 0", "let x 0 n 1 v x.1 0": "v x.1 0", "let x.1 0 n 1 v x 0": "v x 0", "let x.1 0 n 1 v x.1 0": "let x.1 0 n 1 v x.1 0", "let abcdefgh 0 n 1 v abcdefg 0": "v abcdefg 0",
		// types stay as they are, and what they name is no name
		"let x 1 fn y v0 v y 0 if t v x 1 l i v x 1 l b": "let x 1 fn y v0 v y 0 v x 1 l i", "if u v x 0 v x 2 p v0 v1 f i b": "v x 2 p v0 v1 f i b", "fst pair v x 1 f v1 l b v y 2 i i": "v x 1 f v1 l b", "let v0 0 n 1 v x 1 v0": "v x 1 v0", "let i 0 n 1 fn x i v x 0": "fn x i v x 0", "let x 0 n 1 v x 1 i": "let x 0 n 1 v x 1 i",
		"try e v y 1 l f v0 v1 n 1": "v y 1 l f v0 v1", "case h r nil p v0 i nil p l v1 i nil b": "nil p l v1 i", "if t fn x p v1 l v0 n 1 n 2": "fn x p v1 l v0 n 1", "if t raise f i l b n 1 n 2": "raise f i l b n 1", "if t fix f 2 f v0 v1 fn x v0 v x 0 n 1 n 2": "fix f 2 f v0 v1 fn x v0 v x 0 n 1", "op + n 1 snd pair nil l v0 n 2": "n 3",
	} {
		folded(t, text, want)
	}
	// each binder of the same name around the name, in each of its parts
	met := map[bool]int{}
	for _, text := range binderTexts("x", "w") {
		for hole := range strings.Count(text, "#") {
			for _, is := range []string{"n 1", "v z 0", "fn x i v x 0", "raise i n 1"} {
				term := parsedTerm(t, "let x 0 "+is+" "+filledAt(text, hole, "app v x 0 n 1", "app v f 0 n 1"))
				want, _ := asPlainFold(t, term)
				met[equalTerms(term, want)]++
			}
		}
	}
	if met[true] < 30 || met[false] < 20 {
		t.Error("too few", met)
	}
}

// A raise within what would be left out stays where it is, and is raised with the same number.
func TestFoldKeepsRaises(t *testing.T) {
	raises := []string{"raise i n 5", "op + n 1000000 n 1", "op * n -1000 n 1001", "app fn x i raise i v x 0 n 5", "fst pair n 1 raise i n 5", "snd pair raise i n 5 n 1", "let x 0 raise i n 5 n 1", "if raise b n 5 n 1 n 2", "case h r cons raise i n 5 nil i n 1 n 2", "fst raise p i i n 5", "try e raise i n 4 raise i op + v e 0 n 1", "fix f 0 f i i fn x i raise i n 5 app v f 0 n 1", "op - op + n 1 n 2 raise i n 5"}
	around := map[string]string{
		"fst pair n 1 #": "", "snd pair # n 1": "", "fst pair n 1 pair n 2 #": "", "fst pair n 1 pair # n 2": "", "snd pair cons n 1 cons # nil i n 1": "", "fst pair n 1 pair pair n 1 pair # t u": "", "let w 0 # n 1": "", "let w 0 pair n 1 # n 2": "", "let w 0 cons # nil i n 2": "", "let w 0 cons n 1 cons # nil i n 2": "", "let w 0 let v 0 # n 1 n 2": "",
		"try w # n 7": "7", "try w pair n 1 # pair n 7 v w 0": "value", "try w cons # nil i nil i": "[]", "fst pair try w n 1 v w 0 #": "", "snd pair # try w n 1 v w 0": "", "fst fst pair pair n 1 # n 2": "", "op + n 1 #": "", "op + # n 1": "", "if op < # n 1 n 2 n 2": "", "case h r cons # nil i n 1 n 1": "", "app fn w i n 1 #": "", "let w 0 fst pair n 1 # n 2": "", "fst pair n 1 fst pair n 2 #": "", "let w 0 try v raise i n 1 # n 2": "",
		"if t # n 1": "", "if u n 1 #": "", "case h r nil i # n 1": "", "let w 0 n 1 #": "", "fst pair # n 1": "", "snd pair n 1 #": "",
		"if t n 1 #": "1", "if u # n 1": "1", "case h r nil i n 1 #": "1", "try w n 1 #": "1", "let w 0 fn x i # n 1": "1", "fst pair n 1 fn x i #": "1", "try w n 3 op + # v w 0": "3",
	}
	for _, raise := range raises {
		number := impl.Run(parsedTerm(t, raise), impl.MaxFuel)
		if number.End != impl.EndRaise {
			t.Error("the test's own", raise, number)
		}
		for text, end := range around {
			term := parsedTerm(t, filledAll(text, raise))
			want, _ := asPlainFold(t, term)
			got := endsFolded(t, term, want, impl.MaxFuel)
			switch end {
			case "":
				if got != number || impl.Run(want, impl.MaxFuel) != number {
					t.Errorf("%s: %v", plainTermText(term), got)
				}
			case "value":
				if got.End != impl.EndValue || impl.Run(want, impl.MaxFuel) != got {
					t.Errorf("%s: %v", plainTermText(term), got)
				}
			default:
				if got != isValue(end) || impl.Run(want, impl.MaxFuel) != got {
					t.Errorf("%s: %v, not %s", plainTermText(term), got, end)
				}
			}
		}
	}
}

// What never ends is not left out, either; where it is never reached, it may be.
func TestFoldKeepsWhatNeverEnds(t *testing.T) {
	for text, end := range map[string]string{
		"fst pair n 1 #": "fuel", "snd pair # n 1": "fuel", "let w 0 # n 1": "fuel", "let w 0 pair n 1 # n 1": "fuel", "try w # n 1": "fuel", "let w 0 cons # nil i n 1": "fuel", "fst pair n 1 pair # n 2": "fuel", "op + n 1 #": "fuel", "if t # n 1": "fuel", "if t n 1 #": "1", "let w 0 fn x i # n 1": "1", "try w n 1 #": "1", "case h r nil i n 1 #": "1",
	} {
		term := parsedTerm(t, filledAll(text, forever))
		want, _ := asPlainFold(t, term)
		endsFolded(t, term, want, impl.MaxFuel)
		if got := impl.Run(want, impl.MaxFuel); got != ends(end) {
			t.Errorf("%s: %v, not %s", plainTermText(term), got, end)
		}
	}
}

// What ends with what, as told by hand, folded and not.
func TestFoldedPrograms(t *testing.T) {
	for text, end := range map[string]string{
		"let x 0 n 1 op + if t n 2 v x 0 fst pair n 3 v x 0": "5", "try e op + n 1000000 op + n 1 n 0 v e 0": "-1", "op * op + n 999 n 1 op + n 1000 n 1": "raise -1", "let x 0 n 4 let y 0 v x 0 op * v y 0 op + n 1 n 1": "8", "raise b op + n 2 n 3": "raise 5", "cons op + n 1 n 2 cons fst pair n 4 t nil i": "[3,4]", "if op < n 3 n 2 t op = n 1 n 1": "t",
		"fix f 0 f i i fn x i if op < v x 0 op - n 2 n 1 fst pair n 0 v x 0 op + v x 0 app v f 0 op - v x 0 if t n 1 v x 0 app v f 0 op * n 2 n 5": "55", "let id 1 fn x v0 v x 0 if app v id 1 b op < n 1 n 2 app v id 1 i op + n 1 n 1 let z 0 n 1 n 3": "2", "case h r if t cons op + n 1 n 1 nil i nil i n 0 op + v h 0 case h r nil i n 5 v h 0": "7",
		"try e let x 0 raise i op + n 3 n 4 n 1 op + v e 0 try e n 1 v e 0": "8", "try e try d fst pair n 1 raise i n 2 raise i op + v d 0 op - n 3 n 2 op * v e 0 n 2": "6", "app if u fn x i v x 0 fn x i op * v x 0 op + n 1 n 1 n 21": "42", "let x 0 try e op + n 1000000 n 1 op - v e 0 n 1 if t v x 0 n 0": "-2",
	} {
		term := parsedTerm(t, text)
		want, used := asPlainFold(t, term)
		if len(used) == 0 || !impl.Program(term) || !impl.Program(want) {
			t.Error("the test's own", text)
		}
		if got := endsFolded(t, term, want, impl.MaxFuel); got != ends(end) || impl.Run(want, impl.MaxFuel) != ends(end) {
			t.Errorf("%s: %v and %v, not %s", text, got, impl.Run(want, impl.MaxFuel), end)
		}
	}
}

// P14: over many terms, against the test's own, and by what follows. Where nothing that is not wanted comes in a term of no type, it ends the same, too.
func TestFoldByChance(t *testing.T) {
	t.Parallel()
	ended, typed, used, smaller := map[int]int{}, map[int]int{}, map[string]int{}, 0
	for _, term := range slices.Concat(foldTerms(1200), nameTerms(400)) {
		want, rules := asPlainFold(t, term)
		for rule, n := range rules {
			used[rule] += n
		}
		if plainNodes(want) < plainNodes(term) {
			smaller++
		}
		_, code := impl.TypeOf(term)
		typed[code]++
		if code == impl.CheckGood || plainWrong(term, impl.MaxFuel) == 0 {
			ended[endsFolded(t, term, want, impl.MaxFuel).End]++
		}
	}
	if ended[impl.EndValue] < 1500 || ended[impl.EndRaise] < 500 || ended[impl.EndFuel] < 100 || typed[impl.CheckGood] < 2000 || typed[impl.CheckType] < 300 || smaller < 2500 {
		t.Error("too few", ended, typed, smaller)
	}
	for _, rule := range []string{"op", "truth", "if", "fst", "snd", "case", "let", "try"} {
		if used[rule] < 200 {
			t.Error("too few", used)
		}
	}
}

// With free names, and without a type.
func TestFoldOfAnyTerms(t *testing.T) {
	t.Parallel()
	used, free := map[string]int{}, 0
	for _, term := range anyTerms(4000) {
		_, rules := asPlainFold(t, term)
		for rule, n := range rules {
			used[rule] += n
		}
		if len(impl.FreeOf(term)) > 0 {
			free++
		}
	}
	if free < 2000 || used["let"] < 50 || used["try"] < 50 {
		t.Error("too few", used, free)
	}
}

// Whatever stands there, what is around it and known is gone.
func TestFoldAroundEachTerm(t *testing.T) {
	t.Parallel()
	gone, met := map[int]int{}, map[bool]int{}
	for _, term := range slices.Concat(anyTerms(150), typedTerms(150), loopTerms(50)) {
		own, _ := plainFold(term)
		for i, c := range aroundTexts {
			grown := around(term, i)
			if !impl.TermOk(grown) {
				continue
			}
			want, _ := asPlainFold(t, grown)
			met[c.out]++
			if equalTerms(want, own) {
				gone[i]++
			} else if c.out {
				t.Errorf("%s: %s, not %s", plainTermText(grown), plainTermText(want), plainTermText(own))
			}
		}
	}
	for i, c := range aroundTexts {
		if c.out && gone[i] < 200 || !c.out && c.text != "try q # #" && gone[i] > 0 {
			t.Error(c.text, gone[i])
		}
	}
	if met[true] < 4000 || met[false] < 1500 {
		t.Error("too few", met)
	}
}

// A list whose rest is none is Pure by the chapter's words, though it raises in a term of no type: it is left out, and what it raises is not caught any more.
func TestFoldWithoutAType(t *testing.T) {
	for text, c := range map[string][3]string{
		"let x 0 cons n 1 n 2 n 5":           {"n 5", "raise -2", "5"},
		"try e cons n 1 n 2 v e 0":           {"cons n 1 n 2", "-2", "raise -2"},
		"fst pair n 1 cons n 1 t":            {"n 1", "raise -2", "1"},
		"snd pair cons n 1 fn x i n 1 n 2":   {"n 2", "raise -2", "2"},
		"if t n 1 u":                         {"n 1", "1", "1"},
		"fst n 1":                            {"fst n 1", "raise -2", "raise -2"},
		"let x 0 fst n 1 n 2":                {"let x 0 fst n 1 n 2", "raise -2", "raise -2"},
		"fst pair n 1 snd nil i":             {"fst pair n 1 snd nil i", "raise -2", "raise -2"},
		"try e fst cons n 1 nil i v e 0":     {"try e fst cons n 1 nil i v e 0", "-2", "-2"},
		"op + n 1 t":                         {"op + n 1 t", "raise -2", "raise -2"},
		"if n 1 n 2 n 3":                     {"if n 1 n 2 n 3", "raise -2", "raise -2"},
		"case h r pair nil i nil i n 1 n 2":  {"case h r pair nil i nil i n 1 n 2", "raise -2", "raise -2"},
		"try e app n 1 op + n 2 n 3 v e 0":   {"try e app n 1 n 5 v e 0", "-2", "-2"},
		"let x 0 app nil i n 1 op + n 1 n 1": {"let x 0 app nil i n 1 n 2", "raise -2", "raise -2"},
	} {
		term := parsedTerm(t, text)
		if _, code := impl.TypeOf(term); code != impl.CheckType {
			t.Error("the test's own", text, code)
		}
		folded(t, text, c[0])
		if before, after := impl.Run(term, 100), impl.Run(impl.Fold(term), 100); before != ends(c[1]) || after != ends(c[2]) {
			t.Errorf("%s: %v and %v", text, before, after)
		}
	}
	// with free names
	for text, want := range map[string]string{"let x 0 v y 0 n 1": "n 1", "try x v x 0 v x 0": "v x 0", "fst pair v x 0 v y 0": "v x 0", "if t v x 0 v y 0": "v x 0", "op + v x 0 op + n 1 n 2": "op + v x 0 n 3", "case x y nil i v x 0 v y 0": "v x 0", "let x 0 v x 0 n 1": "n 1", "fst v x 0": "fst v x 0"} {
		folded(t, text, want)
	}
}

func pureIs(t *testing.T, why string, term impl.Term, want bool) {
	t.Helper()
	if impl.Pure(term) != want {
		t.Errorf("%s: Pure is %v", why, !want)
	}
}

func TestPureOfEachKind(t *testing.T) {
	met := map[bool]int{}
	for _, c := range kindCases() {
		// a TmPair and a TmCons of names are Pure, the deepest cases of them are not
		want := plainPure(c.term)
		if byKind := slices.Contains([]int{1, 2, 3, 4, 12}, c.term.K); want != byKind && c.term.K != impl.TmPair && c.term.K != impl.TmCons {
			t.Error("the test's own", c.text)
		}
		met[want]++
		pureIs(t, c.text, c.term, want)
	}
	if met[true] < 10 || met[false] < 15 {
		t.Error("too few", met)
	}
	for _, text := range append([]string{"v x 0", "v x 2 i b", "fn x i v y 0", "pair v x 0 v y 1 i", "cons v x 0 v x 0", "cons n 1 n 2"}, pureTexts...) {
		pureIs(t, text, parsedTerm(t, text), true)
	}
	for _, text := range append([]string{"app v f 0 n 1", "op + n 1 n 2", "if t n 1 n 2", "fst pair n 1 n 2", "snd pair n 1 n 2", "case h r nil i n 1 n 2", "let x 0 n 1 n 2", "try e n 1 n 2", "fix f 0 i fn x i n 1 n 2", "raise i n 1"}, otherTexts...) {
		pureIs(t, text, parsedTerm(t, text), false)
	}
}

// Two that are Pure, and with one that is not, on either side, one within another.
func TestPureOfPairsAndLists(t *testing.T) {
	ends := []string{"n 1", "t", "v x 0", "fn x i raise i n 1", "nil i", "app v f 0 n 1", "op + n 1 n 1", "raise i n 1", "fst v x 0", "let x 0 n 1 n 2"}
	level := map[string]bool{}
	for i, text := range ends {
		level[text] = i < 5
	}
	met := map[bool]int{}
	for range 2 {
		more := map[string]bool{}
		for _, first := range sortedKeys(level) {
			for i, second := range sortedKeys(level) {
				if len(level) > 10 && i%7 > 0 {
					continue
				}
				for _, kind := range []string{"pair ", "cons "} {
					more[kind+first+" "+second] = level[first] && level[second]
				}
			}
		}
		level = more
		for _, text := range sortedKeys(level) {
			met[level[text]]++
			pureIs(t, text, parsedTerm(t, text), level[text])
		}
	}
	if met[true] < 500 || met[false] < 2000 {
		t.Error("too few", met)
	}
	for _, kind := range []string{"pair n 1 #", "pair # n 1", "cons n 1 #", "cons # nil i", "pair pair # t u", "cons pair n 1 # nil i"} {
		for end, want := range map[string]bool{"n 5": true, "v x 0": true, "nil i": true, "fn x i raise i n 1": true, "raise i n 1": false, "fst v x 0": false, "try e n 1 n 2": false} {
			text := end
			for range 30 {
				if next := filledAll(kind, text); impl.TermOk(mustTerm(next)) {
					text = next
				}
			}
			pureIs(t, text, parsedTerm(t, text), want)
		}
	}
}

func TestPureByChance(t *testing.T) {
	met := map[bool]int{}
	for _, term := range slices.Concat(anyTerms(3000), foldTerms(300)) {
		for _, n := range plainNodesIn(&term) {
			want := plainPure(*n.t)
			met[want]++
			pureIs(t, plainTermText(*n.t), *n.t, want)
		}
	}
	if met[true] < 20000 || met[false] < 10000 {
		t.Error("too few", met)
	}
}

// Pure goes by what the chapter names, be the rest right or not.
func TestPureOfWhatIsNotRight(t *testing.T) {
	n, raise := tmNum(1), tmRaise(tyInt, tmNum(1))
	spoilt := impl.Term{N: 7, S: "Q", Z: "Q", T: impl.Ty{K: 9}, Ts: []impl.Ty{{}}, A: []impl.Term{raise, {}, raise}}
	for kind := -1; kind <= 18; kind++ {
		simple := slices.Contains([]int{1, 2, 3, 4, 12}, kind)
		whole := spoilt
		whole.K = kind
		pureIs(t, fmt.Sprint("kind ", kind), whole, simple)
		pureIs(t, fmt.Sprint("nothing but the kind ", kind), impl.Term{K: kind}, simple)
		for _, wide := range []int{impl.TmPair, impl.TmCons} {
			pureIs(t, fmt.Sprint("first of ", wide), tmOf(wide, whole, n), simple)
			pureIs(t, fmt.Sprint("second of ", wide), tmOf(wide, n, whole), simple)
		}
	}
	for _, kind := range []int{impl.TmPair, impl.TmCons} {
		pureIs(t, "none", tmOf(kind), false)
		pureIs(t, "one", tmOf(kind, n), false)
		pureIs(t, "three", tmOf(kind, n, n, n), false)
		pureIs(t, "zero first", tmOf(kind, impl.Term{}, n), false)
		pureIs(t, "zero second", tmOf(kind, n, impl.Term{}), false)
		pureIs(t, "many", tmOf(kind, make([]impl.Term, 100000)...), false)
		pureIs(t, "with a number and names", impl.Term{K: kind, N: 5, S: "x", Z: "y", T: tyInt, Ts: []impl.Ty{{}}, A: []impl.Term{n, n}}, true)
		pureIs(t, "a pair of none within", tmOf(kind, n, tmOf(impl.TmPair)), false)
		parts := []impl.Term{n, n, raise}
		pureIs(t, "with more behind its length", impl.Term{K: kind, A: parts[:2]}, true)
		pureIs(t, "with the second behind its length", impl.Term{K: kind, A: parts[:1]}, false)
	}
	pureIs(t, "a number beyond", tmNum(math.MaxInt), true)
	pureIs(t, "a truth beyond", tmBool(2), true)
	pureIs(t, "of a wrong name", tmVar("A"), true)
	// too deep, and too many
	for _, end := range []impl.Term{n, raise} {
		want := end.K == impl.TmNum
		for _, how := range []string{"pair first", "pair second", "cons first", "cons second"} {
			for _, times := range []int{22, 23, 24, 25, 1000, 300000} {
				pureIs(t, fmt.Sprint(how, times), wrapped(wraps()[how], times, end), want)
			}
		}
		pureIs(t, "shared", tmShared(200, end), want)
		pureIs(t, "shared, not too deep", tmShared(23, end), want)
		pureIs(t, "shared beside another", tmOf(impl.TmPair, tmShared(200, n), tmShared(200, end)), want)
	}
	// what holds itself is never made
	pureIs(t, "holds itself", tmHoldsItself(), false)
	pureIs(t, "holds itself by five", tmRound(5), false)
	pureIs(t, "within a pair", tmOf(impl.TmPair, n, tmRound(3)), false)
	pureIs(t, "within a function", tmFn("x", tyInt, tmHoldsItself()), true)
	// one list at two places, and lists that begin at one place
	room := []impl.Term{n, n, raise}
	pureIs(t, "one list twice", tmOf(impl.TmPair, impl.Term{K: impl.TmPair, A: room[:2]}, impl.Term{K: impl.TmCons, A: room[:2]}), true)
	pureIs(t, "lists that overlap", tmOf(impl.TmPair, impl.Term{K: impl.TmPair, A: room[:2]}, impl.Term{K: impl.TmPair, A: room[1:]}), false)
	pureIs(t, "lists that begin at one place", tmOf(impl.TmPair, impl.Term{K: impl.TmPair, A: room[:2]}, impl.Term{K: impl.TmPair, A: room[:3]}), false)
}

// What is not right is told as it is, in lists of its own.
func TestFoldOfWhatIsNotRight(t *testing.T) {
	t.Parallel()
	wrong := wrongTerms()
	for _, why := range sortedKeys(wrong) {
		term := wrong[why]
		if impl.TermOk(term) {
			t.Error("the test's own", why)
		}
		for name, got := range map[string]impl.Term{"Fold": impl.Fold(term), "FoldAll": impl.FoldAll(term)} {
			if !impl.SameTerm(got, term) {
				t.Error(name, why)
			}
			lists := listsOf(term)
			for place := range listsOf(got) {
				if lists[place] > 0 {
					t.Error(name, "shares a list with its argument:", why)
					break
				}
			}
		}
	}
	if len(wrong) < 500 {
		t.Error("too few", len(wrong))
	}
}

// Lists that begin at one place are still others when they end elsewhere, also beside what is at more places than can be met.
func TestFoldOfListsAtOnePlace(t *testing.T) {
	t.Parallel()
	room := []impl.Term{tmNum(1), tmVar("x", tyList(tyInt)), tmNum(3), tmNum(4)}
	types := []impl.Ty{tyInt, tyList(tyBool), {}, tyBool}
	endless := tmOf(99, tmShared(200, tmNum(1)), tmNil(tyShared(200, tyInt)), tmHoldsItself())
	for _, first := range []int{0, 2, 4} {
		for _, second := range []int{1, 2, 3} {
			both := []impl.Term{{K: 98, A: room[:first], Ts: types[:second], T: impl.Ty{A: types[:first]}}, {K: 97, A: room[:second], Ts: types[:first], T: impl.Ty{A: types[:second]}}, {K: 96, A: room[first/2 : first], Ts: types[second/2 : second]}}
			for _, term := range []impl.Term{tmOf(95, both...), tmOf(95, append(both, endless)...), tmOf(95, append([]impl.Term{endless}, both...)...)} {
				for _, got := range []impl.Term{impl.Fold(term), impl.FoldAll(term)} {
					if !impl.SameTerm(got, term) {
						t.Error(first, second, len(term.A))
					}
				}
			}
		}
	}
}

// Each condition of TermOk alone is broken around and within what folds: nothing is folded there.
func TestFoldLeavesWhatIsNotRight(t *testing.T) {
	folds := parsedTerm(t, "if t op + n 1 n 2 fst pair n 3 n 4")
	count := 0
	for _, bad := range []impl.Term{{}, {K: 18}, tmNum(1000001), tmNum(-1000001), tmBool(2), tmVar("A"), tmVar(""), tmVar("x", tyInt, tyInt, tyInt), tmVar("x", impl.Ty{}), tmNil(impl.Ty{}), tmNil(tyLists(6, tyInt)), tmFn("", tyInt, tmNum(1)), tmOf(impl.TmFst), tmOf(impl.TmPair, tmNum(1)), tmLet("x", 3, tmNum(1), tmNum(2)), tmOp(6, tmNum(1), tmNum(2)), tmCase("x", "x", tmNil(tyInt), tmNum(1), tmNum(2)), tmFix("f", 0, tyInt, tmNum(1), tmNum(2)), {K: impl.TmNum, S: "x"}, {K: impl.TmBool, N: 1, T: tyInt}} {
		for _, whole := range []impl.Term{
			tmOf(impl.TmPair, folds, bad), tmOf(impl.TmPair, bad, folds), tmOf(impl.TmIf, tmBool(1), folds, bad), tmOf(impl.TmIf, bad, folds, folds), tmOf(impl.TmIf, tmBool(0), bad, folds), tmLet("x", 0, bad, folds), tmLet("x", 0, tmNum(1), bad), tmTry("e", tmNum(1), bad), tmTry("e", bad, folds), tmOf(impl.TmFst, tmOf(impl.TmPair, folds, bad)), tmOf(impl.TmSnd, tmOf(impl.TmPair, bad, folds)), tmCase("h", "r", tmNil(tyInt), folds, bad), tmOp(1, tmNum(1), bad), tmOf(impl.TmFst, tmOf(impl.TmFst, tmOf(impl.TmIf, tmBool(1), folds, bad))), bad,
		} {
			count++
			if impl.TermOk(whole) || !equalTerms(impl.Fold(whole), whole) || !equalTerms(impl.FoldAll(whole), whole) {
				t.Error(whole)
			}
		}
	}
	// what has a field that its kind does not name, and would fold without it
	for _, term := range []impl.Term{{K: impl.TmIf, N: 1, A: []impl.Term{tmBool(1), tmNum(1), tmNum(2)}}, {K: impl.TmOp, N: 1, S: "x", A: []impl.Term{tmNum(1), tmNum(2)}}, {K: impl.TmFst, T: tyInt, A: []impl.Term{tmOf(impl.TmPair, tmNum(1), tmNum(2))}}, {K: impl.TmLet, S: "x", Z: "y", A: []impl.Term{tmNum(1), tmNum(2)}}, {K: impl.TmLet, S: "x", N: -1, A: []impl.Term{tmNum(1), tmNum(2)}}, {K: impl.TmTry, S: "x", N: 1, A: []impl.Term{tmNum(1), tmNum(2)}}, {K: impl.TmCase, S: "h", Z: "r", Ts: []impl.Ty{tyInt}, A: []impl.Term{tmNil(tyInt), tmNum(1), tmNum(2)}}, {K: impl.TmIf, A: []impl.Term{tmBool(1), tmNum(1), tmNum(2), tmNum(3)}}, {K: impl.TmIf, A: []impl.Term{tmBool(1), tmNum(1)}}, {K: impl.TmOp, N: 6, A: []impl.Term{tmNum(1), tmNum(2)}}, {K: impl.TmOp, A: []impl.Term{tmNum(1), tmNum(2)}}, {K: impl.TmSnd, A: []impl.Term{tmOf(impl.TmPair, tmNum(1))}}} {
		count++
		if impl.TermOk(term) || !equalTerms(impl.Fold(term), term) || !equalTerms(impl.FoldAll(term), term) {
			t.Error(term)
		}
	}
	// as deep and as great as can be, and one more
	for _, times := range []int{22, 23, 24} {
		deep := wrapped(wraps()["let second"], times, tmNum(5))
		if got := impl.Fold(deep); impl.TermOk(deep) != (times < 24) || times < 24 && !equalTerms(got, tmNum(5)) || times == 24 && !equalTerms(got, deep) {
			t.Error("depth", times)
		}
	}
	for ones, right := range map[int]bool{74: true, 75: true, 76: false, 77: false} {
		sum := onesAdded(ones)
		want := sum
		if right {
			want = tmNum(ones)
		}
		if impl.TermOk(sum) != right || !equalTerms(impl.Fold(sum), want) || !equalTerms(impl.FoldAll(sum), want) {
			t.Error("nodes", plainNodes(sum))
		}
	}
	if count < 300 {
		t.Error("too few", count)
	}
}

// foldArguments are terms of all sorts, right and wrong, of which each can be gone through.
func foldArguments() []impl.Term {
	all := slices.Concat(foldTerms(150), anyTerms(200), []impl.Term{mostBinders("x", "y"), termOfNodes(151), termOfNodes(150), sumOfNodes(149), wrapped(wraps()["let second"], 40, tmNum(1)), {}, {K: 30, Ts: []impl.Ty{tyList(tyInt), {}}, A: []impl.Term{tmNum(1), {}}}})
	wrong := wrongFields()
	for _, why := range sortedKeys(wrong) {
		all = append(all, wrong[why])
	}
	return all
}

func TestFoldArgumentsStay(t *testing.T) {
	for _, term := range foldArguments() {
		roomy := roomyTerm(term)
		kept := fullTerm(roomy)
		impl.Pure(roomy)
		once, all := impl.Fold(roomy), impl.FoldAll(roomy)
		if !reflect.DeepEqual(fullTerm(roomy), kept) {
			t.Fatal("an argument was written to", term)
		}
		// what is written into an answer is not seen in the argument
		for _, answer := range []impl.Term{once, all} {
			for _, place := range placesOf(answer) {
				switch place := place.(type) {
				case *impl.Term:
					*place = impl.Term{K: 50}
				case *impl.Ty:
					*place = impl.Ty{K: 50}
				}
			}
		}
		if !reflect.DeepEqual(fullTerm(roomy), kept) {
			t.Fatal("an answer is in the argument's memory", term)
		}
	}
}

// What lies behind a list's length is not there.
func TestFoldSpareRoomIsNotRead(t *testing.T) {
	for _, term := range foldArguments() {
		roomy := roomyTerm(term)
		if !equalTerms(impl.Fold(roomy), impl.Fold(term)) || !equalTerms(impl.FoldAll(roomy), impl.FoldAll(term)) || impl.Pure(roomy) != impl.Pure(term) {
			t.Error(impl.TermText(term))
		}
	}
}

func TestFoldAnswersAreNewMemory(t *testing.T) {
	// with one list at many places, in what is right and in what is not
	shared := tmFn("x", tyPair(tyList(tyInt), tyBool), tmVar("x", tyList(tyV0), tyFun(tyV1, tyInt)))
	wrong := shared
	wrong.N = 1
	pairs := tmShared(4, shared)
	all := append(foldArguments(), pairs, tmLet("y", 2, shared, tmShared(3, shared)), tmFix("f", 0, shared.T, shared, shared), tmOf(impl.TmFst, tmOf(impl.TmPair, pairs, shared)), tmOf(impl.TmIf, tmBool(0), shared, pairs), tmTry("e", pairs, shared), tmLet("y", 0, shared, pairs),
		wrong, tmShared(1, wrong), tmShared(4, wrong), tmShared(9, wrong), tmFix("f", 0, tyInt, wrong, shared), tmOf(impl.TmPair, tmShared(8, shared), wrong), tmVar("x", shared.T, shared.T, shared.T), tmNil(tyShared(9, tyList(tyInt))))
	for _, term := range all {
		roomy := roomyTerm(term)
		for _, argument := range []impl.Term{roomy, term} {
			answers := slices.Concat(placesOf(impl.Fold(argument)), placesOf(impl.Fold(argument)), placesOf(impl.FoldAll(argument)), placesOf(impl.FoldAll(argument)))
			ownPlaces(t, impl.TermText(term), answers, placesOf(argument))
		}
	}
}

// Nothing is kept from one call to another.
func TestFoldKeepsNothing(t *testing.T) {
	all := foldArguments()
	var kept []impl.Term
	pure := map[int]bool{}
	for i, term := range all {
		kept = append(kept, impl.FoldAll(term))
		pure[i] = impl.Pure(term)
	}
	first := maps.Clone(pure)
	for i, term := range slices.Backward(all) {
		impl.Fold(all[len(all)-1-i])
		if !equalTerms(impl.FoldAll(term), kept[i]) || impl.Pure(term) != first[i] {
			t.Error(impl.TermText(term))
		}
	}
}
