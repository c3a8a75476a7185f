package tests

import (
	"math"
	"math/rand"
	"reflect"
	"slices"
	"strconv"
	"strings"
	"testing"

	"loop.example/g00187/impl"
)

// nameCase is a text, and the same with other names.
type nameCase struct{ text, want string }

func unlikedAll(t *testing.T, cases []nameCase) {
	t.Helper()
	for _, c := range cases {
		unliked(t, c.text, c.want)
	}
}

func TestUnlikeEachBinder(t *testing.T) {
	unlikedAll(t, []nameCase{
		{"fn x i v x 0", "fn a1 i v a1 0"},
		{"app fn x i op + v x 0 v x 0 n 1", "app fn a1 i op + v a1 0 v a1 0 n 1"},
		{"let x 0 n 1 v x 0", "let a1 0 n 1 v a1 0"},
		{"let x 0 n 1 pair v x 0 pair v x 0 v x 0", "let a1 0 n 1 pair v a1 0 pair v a1 0 v a1 0"},
		// a fix is named in its own function and where it holds
		{"fix f 0 f i i fn x i app v f 0 v x 0 app v f 0 n 3", "fix a1 0 f i i fn a2 i app v a1 0 v a2 0 app v a1 0 n 3"},
		{"fix f 0 f i i fn x i app v f 0 v x 0 n 3", "fix a1 0 f i i fn a2 i app v a1 0 v a2 0 n 3"},
		{"fix f 0 f i i fn x i v x 0 app v f 0 n 3", "fix a1 0 f i i fn a2 i v a2 0 app v a1 0 n 3"},
		{"case h r nil i n 0 v h 0", "case a1 a2 nil i n 0 v a1 0"},
		{"case h r nil i nil i v r 0", "case a1 a2 nil i nil i v a2 0"},
		{"case h r nil i nil i cons v h 0 v r 0", "case a1 a2 nil i nil i cons v a1 0 v a2 0"},
		{"case h r nil i n 0 app v r 0 v h 0", "case a1 a2 nil i n 0 app v a2 0 v a1 0"},
		{"try e raise i n 1 v e 0", "try a1 raise i n 1 v a1 0"},
		// a binder that nothing names
		{"fn x i n 1", "fn a1 i n 1"}, {"let x 0 n 1 n 2", "let a1 0 n 1 n 2"}, {"fix f 0 f i i fn x i n 1 n 2", "fix a1 0 f i i fn a2 i n 1 n 2"}, {"case h r nil i n 1 n 2", "case a1 a2 nil i n 1 n 2"}, {"try e n 1 n 2", "try a1 n 1 n 2"},
		{"let x 0 n 1 let y 0 n 2 v x 0", "let a1 0 n 1 let a2 0 n 2 v a1 0"}, {"let x 0 n 1 let y 0 n 2 v y 0", "let a1 0 n 1 let a2 0 n 2 v a2 0"}, {"let x 0 n 1 case h r nil i n 1 try e n 1 v x 0", "let a1 0 n 1 case a2 a3 nil i n 1 try a4 n 1 v a1 0"},
		// no binder at all
		{"n 1", "n 1"}, {"t", "t"}, {"nil l i", "nil l i"}, {"if t op + n 1 n 2 fst pair n 3 raise b n 4", "if t op + n 1 n 2 fst pair n 3 raise b n 4"}, {"cons n 1 app n 2 snd nil b", "cons n 1 app n 2 snd nil b"},
	})
}

// Of each term S, then Z, then those in its A, from the front.
func TestUnlikeOrder(t *testing.T) {
	unlikedAll(t, []nameCase{
		// in each part of each other one
		{"fn x i fn y i pair v x 0 v y 0", "fn a1 i fn a2 i pair v a1 0 v a2 0"},
		{"let x 0 let y 0 n 1 v y 0 let z 0 n 2 op + v x 0 v z 0", "let a1 0 let a2 0 n 1 v a2 0 let a3 0 n 2 op + v a1 0 v a3 0"},
		{"fix f 0 f i i fn x i let y 0 v x 0 app v f 0 v y 0 let z 0 n 1 app v f 0 v z 0", "fix a1 0 f i i fn a2 i let a3 0 v a2 0 app v a1 0 v a3 0 let a4 0 n 1 app v a1 0 v a4 0"},
		{"case h r let x 0 nil i v x 0 let y 0 n 1 v y 0 let z 0 v h 0 op + v z 0 app v r 0 v h 0", "case a1 a2 let a3 0 nil i v a3 0 let a4 0 n 1 v a4 0 let a5 0 v a1 0 op + v a5 0 app v a2 0 v a1 0"},
		{"try e let x 0 n 1 raise i v x 0 let y 0 v e 0 op + v y 0 v e 0", "try a1 let a2 0 n 1 raise i v a2 0 let a3 0 v a1 0 op + v a3 0 v a1 0"},
		{"case h r case k s nil l i nil i v k 0 n 0 case l m v r 0 v h 0 app v m 0 v l 0", "case a1 a2 case a3 a4 nil l i nil i v a3 0 n 0 case a5 a6 v a2 0 v a1 0 app v a6 0 v a5 0"},
		{"fix f 0 f i i fn x i fix g 0 f i i fn y i app v f 0 v x 0 app v g 0 v x 0 fix h 0 f i i fn z i v z 0 app v h 0 app v f 0 n 1",
			"fix a1 0 f i i fn a2 i fix a3 0 f i i fn a4 i app v a1 0 v a2 0 app v a3 0 v a2 0 fix a5 0 f i i fn a6 i v a6 0 app v a5 0 app v a1 0 n 1"},
		{"try e try d raise i n 1 raise i v d 0 try c raise i v e 0 op + v c 0 v e 0", "try a1 try a2 raise i n 1 raise i v a2 0 try a3 raise i v a1 0 op + v a3 0 v a1 0"},
		// beside each other
		{"pair fn x i v x 0 fn y i v y 0", "pair fn a1 i v a1 0 fn a2 i v a2 0"}, {"pair fn x i v x 0 fn x i v x 0", "pair fn a1 i v a1 0 fn a2 i v a2 0"},
		{"if let x 0 t v x 0 let y 0 n 1 v y 0 let z 0 n 2 v z 0", "if let a1 0 t v a1 0 let a2 0 n 1 v a2 0 let a3 0 n 2 v a3 0"},
		{"op + case h r nil i n 0 v h 0 try e raise i n 1 v e 0", "op + case a1 a2 nil i n 0 v a1 0 try a3 raise i n 1 v a3 0"},
		{"app fix f 0 f i i fn x i app v f 0 v x 0 v f 0 fix f 0 i fn y i v f 0 v f 0", "app fix a1 0 f i i fn a2 i app v a1 0 v a2 0 v a1 0 fix a3 0 i fn a4 i v a3 0 v a3 0"},
		{"cons fst pair let x 0 n 1 v x 0 n 2 cons snd pair n 1 let x 0 n 2 v x 0 nil i", "cons fst pair let a1 0 n 1 v a1 0 n 2 cons snd pair n 1 let a2 0 n 2 v a2 0 nil i"},
		// what stands in a part that is behind does not take a number ahead
		{"let z 0 n 1 pair pair pair fn d i v d 0 fn c i v z 0 fn b i v b 0 fn a i v z 0", "let a1 0 n 1 pair pair pair fn a2 i v a2 0 fn a3 i v a1 0 fn a4 i v a4 0 fn a5 i v a1 0"},
	})
}

// A name that is bound in one part and not in the other is, in the other, that of a binder around.
func TestUnlikePartsWhereNothingIsBound(t *testing.T) {
	unlikedAll(t, []nameCase{
		{"let x 0 n 1 let x 0 v x 0 v x 0", "let a1 0 n 1 let a2 0 v a1 0 v a2 0"},
		{"let x 0 n 1 let x 0 op + v x 0 v x 0 op * v x 0 v x 0", "let a1 0 n 1 let a2 0 op + v a1 0 v a1 0 op * v a2 0 v a2 0"},
		{"let e 0 n 1 try e raise i v e 0 v e 0", "let a1 0 n 1 try a2 raise i v a1 0 v a2 0"},
		{"let h 0 n 1 case h r cons v h 0 nil i v h 0 v h 0", "let a1 0 n 1 case a2 a3 cons v a1 0 nil i v a1 0 v a2 0"},
		{"let r 0 nil i case h r v r 0 v r 0 v r 0", "let a1 0 nil i case a2 a3 v a1 0 v a1 0 v a3 0"},
		{"let h 0 n 1 let r 0 nil i case h r cons v h 0 v r 0 cons v h 0 v r 0 cons v h 0 v r 0", "let a1 0 n 1 let a2 0 nil i case a3 a4 cons v a1 0 v a2 0 cons v a1 0 v a2 0 cons v a3 0 v a4 0"},
		{"let h 0 n 1 let r 0 nil i case r h cons v h 0 v r 0 cons v h 0 v r 0 cons v r 0 v h 0", "let a1 0 n 1 let a2 0 nil i case a3 a4 cons v a1 0 v a2 0 cons v a1 0 v a2 0 cons v a3 0 v a4 0"},
		{"fn x i fn y i case x y v y 0 v x 0 app v y 0 v x 0", "fn a1 i fn a2 i case a3 a4 v a2 0 v a1 0 app v a4 0 v a3 0"},
		// an argument is not bound where its function is called
		{"let x 0 n 1 app fn x i v x 0 v x 0", "let a1 0 n 1 app fn a2 i v a2 0 v a1 0"},
		// a fix is bound in both
		{"let f 0 n 1 fix f 0 f i i fn x i app v f 0 v x 0 app v f 0 n 1", "let a1 0 n 1 fix a2 0 f i i fn a3 i app v a2 0 v a3 0 app v a2 0 n 1"},
		// its argument in its function alone
		{"let x 0 n 1 fix f 0 f i i fn x i app v f 0 v x 0 app v f 0 v x 0", "let a1 0 n 1 fix a2 0 f i i fn a3 i app v a2 0 v a3 0 app v a2 0 v a1 0"},
	})
}

// The same name again within where it holds.
func TestUnlikeNamesWithinNames(t *testing.T) {
	unlikedAll(t, []nameCase{
		{"fn x i fn x i v x 0", "fn a1 i fn a2 i v a2 0"},
		{"let x 0 n 1 let x 0 n 2 let x 0 n 3 v x 0", "let a1 0 n 1 let a2 0 n 2 let a3 0 n 3 v a3 0"},
		{"let x 0 n 1 let x 0 op + v x 0 n 1 let x 0 op + v x 0 n 1 v x 0", "let a1 0 n 1 let a2 0 op + v a1 0 n 1 let a3 0 op + v a2 0 n 1 v a3 0"},
		{"fn x i pair pair v x 0 fn x i v x 0 v x 0", "fn a1 i pair pair v a1 0 fn a2 i v a2 0 v a1 0"},
		{"let x 0 n 1 op + let x 0 n 2 v x 0 v x 0", "let a1 0 n 1 op + let a2 0 n 2 v a2 0 v a1 0"},
		{"let x 0 n 1 op + v x 0 fix x 0 f i i fn y i app v x 0 v y 0 app v x 0 n 2", "let a1 0 n 1 op + v a1 0 fix a2 0 f i i fn a3 i app v a2 0 v a3 0 app v a2 0 n 2"},
		{"fix x 0 f i i fn x i v x 0 app v x 0 n 1", "fix a1 0 f i i fn a2 i v a2 0 app v a1 0 n 1"},
		{"fix f 0 f i i fn x i let f 0 fn y i v y 0 app v f 0 v x 0 app v f 0 n 1", "fix a1 0 f i i fn a2 i let a3 0 fn a4 i v a4 0 app v a3 0 v a2 0 app v a1 0 n 1"},
		{"fix f 0 f i i fn x i fix f 0 f i i fn x i app v f 0 v x 0 app v f 0 v x 0 app v f 0 n 1", "fix a1 0 f i i fn a2 i fix a3 0 f i i fn a4 i app v a3 0 v a4 0 app v a3 0 v a2 0 app v a1 0 n 1"},
		{"case x y nil l i n 0 case x y v x 0 v x 0 app v y 0 v x 0", "case a1 a2 nil l i n 0 case a3 a4 v a1 0 v a1 0 app v a4 0 v a3 0"},
		{"case x y nil l i n 0 case y x v x 0 v y 0 app v y 0 v x 0", "case a1 a2 nil l i n 0 case a3 a4 v a1 0 v a2 0 app v a3 0 v a4 0"},
		{"try e raise i n 1 try e raise i v e 0 v e 0", "try a1 raise i n 1 try a2 raise i v a1 0 v a2 0"},
		// each by another kind
		{"fn x i let x 0 v x 0 case x r v x 0 v x 0 try x v x 0 fix x 0 i fn y i v x 0 v x 0", "fn a1 i let a2 0 v a1 0 case a3 a4 v a2 0 v a2 0 try a5 v a3 0 fix a6 0 i fn a7 i v a6 0 v a6 0"},
		{"let x 0 n 1 pair pair fn x i v x 0 fix x 0 i fn y i v x 0 v x 0 pair case x r nil i v x 0 v x 0 pair case h x nil i v x 0 v x 0 pair try x v x 0 v x 0 v x 0",
			"let a1 0 n 1 pair pair fn a2 i v a2 0 fix a3 0 i fn a4 i v a3 0 v a3 0 pair case a5 a6 nil i v a1 0 v a5 0 pair case a7 a8 nil i v a1 0 v a8 0 pair try a9 v a1 0 v a9 0 v a1 0"},
		// bound again in a first A
		{"let x 0 let x 0 n 1 v x 0 v x 0", "let a1 0 let a2 0 n 1 v a2 0 v a1 0"},
		{"let x 0 let x 0 let x 0 n 1 v x 0 v x 0 v x 0", "let a1 0 let a2 0 let a3 0 n 1 v a3 0 v a2 0 v a1 0"},
		{"let x 0 fn x i v x 0 app v x 0 n 1", "let a1 0 fn a2 i v a2 0 app v a1 0 n 1"},
		{"let x 0 fix x 0 f i i fn y i app v x 0 v y 0 v x 0 v x 0", "let a1 0 fix a2 0 f i i fn a3 i app v a2 0 v a3 0 v a2 0 v a1 0"},
		{"let x 0 case x y nil i n 0 v x 0 let y 0 v x 0 v y 0", "let a1 0 case a2 a3 nil i n 0 v a2 0 let a4 0 v a1 0 v a4 0"},
		{"case x y case x y nil l i nil i v x 0 n 0 v x 0", "case a1 a2 case a3 a4 nil l i nil i v a3 0 n 0 v a1 0"},
		{"case x y case y x nil i nil i v x 0 nil i v y 0", "case a1 a2 case a3 a4 nil i nil i v a4 0 nil i v a2 0"},
		{"try x try x raise i n 1 raise i v x 0 v x 0", "try a1 try a2 raise i n 1 raise i v a2 0 v a1 0"},
		{"app fn x i v x 0 let x 0 n 1 v x 0", "app fn a1 i v a1 0 let a2 0 n 1 v a2 0"},
	})
}

// The new names may stand there already, as those of other binders.
func TestUnlikeNewNamesAlreadyThere(t *testing.T) {
	unlikedAll(t, []nameCase{
		{"let a1 0 n 1 let a2 0 n 2 op - v a1 0 v a2 0", "let a1 0 n 1 let a2 0 n 2 op - v a1 0 v a2 0"},
		{"let a2 0 n 1 let a1 0 n 2 op - v a2 0 v a1 0", "let a1 0 n 1 let a2 0 n 2 op - v a1 0 v a2 0"},
		{"let a2 0 n 1 let a1 0 n 2 op - v a1 0 v a2 0", "let a1 0 n 1 let a2 0 n 2 op - v a2 0 v a1 0"},
		{"let a2 0 n 1 let a1 0 v a2 0 op - v a1 0 v a2 0", "let a1 0 n 1 let a2 0 v a1 0 op - v a2 0 v a1 0"},
		{"let b 0 n 1 let a1 0 n 2 v b 0", "let a1 0 n 1 let a2 0 n 2 v a1 0"},
		{"let a2 0 n 1 let b 0 n 2 v a2 0", "let a1 0 n 1 let a2 0 n 2 v a1 0"},
		{"let a1 0 n 1 let a1 0 n 2 v a1 0", "let a1 0 n 1 let a2 0 n 2 v a2 0"},
		{"let a3 0 n 1 let a1 0 v a3 0 let a2 0 v a1 0 cons v a1 0 cons v a2 0 cons v a3 0 nil i", "let a1 0 n 1 let a2 0 v a1 0 let a3 0 v a2 0 cons v a2 0 cons v a3 0 cons v a1 0 nil i"},
		{"fn a3 i fn a2 i fn a1 i pair v a1 0 pair v a2 0 v a3 0", "fn a1 i fn a2 i fn a3 i pair v a3 0 pair v a2 0 v a1 0"},
		{"case a2 a1 nil i nil i cons v a2 0 v a1 0", "case a1 a2 nil i nil i cons v a1 0 v a2 0"},
		{"case a2 a3 nil i nil i case a1 a2 v a3 0 nil i cons v a1 0 v a2 0", "case a1 a2 nil i nil i case a3 a4 v a2 0 nil i cons v a3 0 v a4 0"},
		{"fix a2 0 f i i fn a1 i app v a2 0 v a1 0 app v a2 0 n 1", "fix a1 0 f i i fn a2 i app v a1 0 v a2 0 app v a1 0 n 1"},
		{"fix a2 0 f i i fn a2 i v a2 0 app v a2 0 n 1", "fix a1 0 f i i fn a2 i v a2 0 app v a1 0 n 1"},
		{"try a2 let a1 0 n 1 raise i v a1 0 v a2 0", "try a1 let a2 0 n 1 raise i v a2 0 v a1 0"},
		{"let a2 0 let a1 0 n 1 v a1 0 v a2 0", "let a1 0 let a2 0 n 1 v a2 0 v a1 0"},
		{"let a02 0 n 1 let a01 0 n 2 let a.1 0 n 3 let a 0 n 4 let b1 0 v a02 0 cons v a01 0 cons v a.1 0 cons v a 0 cons v b1 0 nil i",
			"let a1 0 n 1 let a2 0 n 2 let a3 0 n 3 let a4 0 n 4 let a5 0 v a1 0 cons v a2 0 cons v a3 0 cons v a4 0 cons v a5 0 nil i"},
	})
}

// Each kind of binder in each part of each, with the same names, other names, and such that come.
func TestUnlikeEachBinderInEach(t *testing.T) {
	met := 0
	for _, names := range [][4]string{{"x", "y", "x", "y"}, {"x", "y", "y", "x"}, {"x", "y", "p", "q"}, {"x", "y", "p", "x"}, {"a3", "a4", "a5", "a6"}, {"a6", "a5", "a4", "a3"}, {"a2", "a1", "a1", "a2"}, {"a5", "a3", "a3", "a5"}, {"fn", "let", "v", "case"}} {
		reads := "pair v " + names[0] + " 0 v " + names[1] + " 0"
		within := "pair v " + names[2] + " 0 v " + names[3] + " 0"
		around := ""
		for _, s := range names {
			around += "let " + s + " 0 n 1 "
		}
		for _, outer := range binderTexts(names[0], names[1]) {
			for hole := range strings.Count(outer, "#") {
				for _, inner := range binderTexts(names[2], names[3]) {
					met++
					whole := filledAt(outer, hole, filledAt(inner, -1, "", "pair "+reads+" "+within), "pair "+reads+" "+within)
					asPlainUnlike(t, parsedTerm(t, around+whole))
				}
			}
		}
	}
	if met < 1000 {
		t.Error("too few", met)
	}
}

// Names that are words of the text's own, with points, and of 8 bytes.
func TestUnlikeAnyNames(t *testing.T) {
	for _, s := range slices.Concat(rightNames(), []string{"n", "t", "u", "v", "fn", "app", "let", "fix", "case", "op", "raise", "try", "i", "b", "f", "p", "l", "v0", "a1", "a149"}) {
		unliked(t, "let "+s+" 0 n 1 op + v "+s+" 0 v "+s+" 0", "let a1 0 n 1 op + v a1 0 v a1 0")
		unliked(t, "fn "+s+" i try "+s+" v "+s+" 0 v "+s+" 0", "fn a1 i try a2 v a1 0 v a2 0")
		unliked(t, "case "+s+" other nil i n 0 app v other 0 v "+s+" 0", "case a1 a2 nil i n 0 app v a2 0 v a1 0")
		unliked(t, "case other "+s+" nil i n 0 app v other 0 v "+s+" 0", "case a1 a2 nil i n 0 app v a1 0 v a2 0")
		unliked(t, "fix "+s+" 0 f i i fn x9z i app v "+s+" 0 v x9z 0 v "+s+" 0", "fix a1 0 f i i fn a2 i app v a1 0 v a2 0 v a1 0")
	}
	// alike but for the last of 8 bytes, and one the beginning of another
	unliked(t, "let abcdefgh 0 n 1 let abcdefgi 0 n 2 let abcdefg 0 n 3 pair v abcdefgh 0 pair v abcdefgi 0 v abcdefg 0", "let a1 0 n 1 let a2 0 n 2 let a3 0 n 3 pair v a1 0 pair v a2 0 v a3 0")
}

// All that is no name stays as it was.
func TestUnlikeKeepsTheRest(t *testing.T) {
	unlikedAll(t, []nameCase{
		{"let id 1 fn x v0 v x 0 app v id 1 p i l b n 1", "let a1 1 fn a2 v0 v a2 0 app v a1 1 p i l b n 1"},
		{"let k 2 fn x v0 fn y v1 v x 0 app app v k 2 i b n -7 t", "let a1 2 fn a2 v0 fn a3 v1 v a2 0 app app v a1 2 i b n -7 t"},
		{"fix f 2 f v0 l v1 fn x v0 nil v1 app v f 2 i b n 1000000", "fix a1 2 f v0 l v1 fn a2 v0 nil v1 app v a1 2 i b n 1000000"},
		{"fix len 1 f l v0 i fn l l v0 case h r v l 0 n 0 op + n 1 app v len 0 v r 0 app v len 1 b nil b", "fix a1 1 f l v0 i fn a2 l v0 case a3 a4 v a2 0 n 0 op + n 1 app v a1 0 v a4 0 app v a1 1 b nil b"},
		{"raise f v0 v1 let x 2 nil p v0 v1 v x 2 v1 f i i", "raise f v0 v1 let a1 2 nil p v0 v1 v a1 2 v1 f i i"},
		{"fn x f f i b p l v0 v1 op = op < v x 0 n -1000000 op - t op * u op + nil v1 v x 2 i i", "fn a1 f f i b p l v0 v1 op = op < v a1 0 n -1000000 op - t op * u op + nil v1 v a1 2 i i"},
		// a binder without type variables of its own, named with types: no type, but a right term
		{"try e raise b n 1 v e 2 l l l l l i v0", "try a1 raise b n 1 v a1 2 l l l l l i v0"},
	})
	big := plainText(tyOfNodes(60))
	unliked(t, "let x 2 nil "+big+" fn y "+big+" v x 2 "+big+" "+big, "let a1 2 nil "+big+" fn a2 "+big+" v a1 2 "+big+" "+big)
}

func TestUnlikeOfTheGreatestTerms(t *testing.T) {
	for _, names := range [][]string{{"x"}, {"x", "y"}, {"a1", "a2", "a3"}, {"a146", "a100", "a99", "a10", "a9"}, {"longname", "othernam", "longnamf"}, countedUp(21)} {
		most := mostBinders(names...)
		if plainNodes(most) != 150 || plainDepth(most) != 24 || len(plainFree(most)) > 0 || len(bindersInText(plainTermText(most))) != 146 {
			t.Fatal("the test's own", plainTermText(most))
		}
		want := asPlainUnlike(t, most)
		for _, s := range []string{"fn a9 ", "fn a10 ", "fn a99 ", "fn a100 ", "fn a146 "} {
			if !strings.Contains(plainTermText(want), s) {
				t.Error("the test's own", s, plainTermText(want))
			}
		}
		runsTheSame(t, most, want, impl.MaxFuel)
		deepest := deepestLets(names...)
		if plainDepth(deepest) != 24 || len(plainFree(deepest)) > 0 || len(bindersInText(plainTermText(deepest))) != 23 {
			t.Fatal("the test's own", plainTermText(deepest))
		}
		runsTheSame(t, deepest, asPlainUnlike(t, deepest), impl.MaxFuel)
		for nodes := 145; nodes <= 150; nodes++ {
			k := 0
			lets := letsOfNodes(nodes, func() string { k++; return names[k%len(names)] }, tmNum(7))
			end := runsTheSame(t, lets, asPlainUnlike(t, lets), impl.MaxFuel)
			if plainNodes(lets) != nodes || k != (nodes-1)/2 || nodes%2 == 1 && end != isValue("7") {
				t.Error("the test's own", nodes, k, end)
			}
		}
	}
	// no binder, as great as can be
	for _, term := range []impl.Term{sumOfNodes(150), wrapped(func(t impl.Term) impl.Term { return tmOp(1, tmNum(1), t) }, 23, tmNum(1))} {
		unlikedTerm(t, term, term)
		if len(impl.Binders(term)) > 0 || impl.Lambdas(term) != 0 || !impl.AllUnlike(term) {
			t.Error(plainTermText(term))
		}
	}
	for _, wrap := range wraps() {
		for _, times := range []int{1, 2, 22, 23} {
			if whole := wrapped(wrap, times, tmNum(1)); plainDepth(whole) <= 24 {
				asPlainUnlike(t, whole)
			}
		}
	}
	// fixes within the functions of others
	for _, s := range []string{"f", "x", "a2"} {
		fixes := wrapped(func(t impl.Term) impl.Term { return tmFix(s, 0, tyInt, tmFn("x", tyInt, t), tmVar(s)) }, 11, tmOf(impl.TmPair, tmVar(s), tmVar("x")))
		if asPlainUnlike(t, fixes); plainDepth(fixes) != 24 {
			t.Error("the test's own", plainTermText(fixes))
		}
	}
}

// What has free names is refused, wherever they stand, also where the same name is bound elsewhere.
func TestUnlikeRefusesFreeNames(t *testing.T) {
	for _, text := range []string{
		"v x 0", "v x 1 i", "fn x i v y 0", "fn x i v x. 0", "fn x i v x1 0", "fn xx i v x 0", "op + n 1 v x 0", "let x 0 n 1 v y 0",
		// bound in one part, free in another
		"let x 0 v x 0 n 1", "let x 0 v x 0 v x 0", "let x 0 v x 0 let x 0 n 1 v x 0", "try x v x 0 n 1", "try x v x 0 v x 0", "case x y v x 0 n 1 n 2", "case x y v y 0 n 1 n 2", "case x y nil i v x 0 n 2", "case x y nil i v y 0 v x 0",
		"app fn x i v x 0 v x 0", "app v x 0 fn x i v x 0", "pair let x 0 n 1 v x 0 v x 0", "pair v x 0 let x 0 n 1 v x 0", "fix f 0 f i i fn x i v x 0 v x 0", "fix f 0 f i i fn x i v g 0 v f 0", "fix f 0 f i i fn x i v f 0 v g 0",
		"app v f 0 fix f 0 f i i fn x i v x 0 v f 0", "if fn x i v x 0 fn y i v x 0 fn z i v z 0", "cons try e n 1 v e 0 v e 0",
		// the new names
		"v a1 0", "fn x i v a1 0", "let x 0 v a1 0 v x 0", "let x 0 n 1 let y 0 n 2 v a2 0", "let a1 0 v a2 0 let a2 0 n 1 v a1 0",
	} {
		notUnliked(t, text, parsedTerm(t, text))
	}
	for how, wrap := range wraps() {
		for _, times := range []int{1, 2, 5} {
			whole := wrapped(wrap, times, tmVar("free"))
			notUnliked(t, how, whole)
			notUnliked(t, how, tmLet("free", 0, whole, tmVar("free")))
			asPlainUnlike(t, tmLet("free", 0, tmNum(1), whole))
		}
	}
	free, bound := 0, 0
	for _, term := range anyTerms(4000) {
		if len(plainFree(term)) > 0 {
			free++
			notUnliked(t, plainTermText(term), term)
		} else {
			bound++
			asPlainUnlike(t, term)
		}
	}
	if free < 1000 || bound < 300 {
		t.Error("too few", free, bound)
	}
}

func TestNamesOfWrongTerms(t *testing.T) {
	for why, term := range wrongTerms() {
		for _, whole := range []impl.Term{term, tmFn("x", tyInt, term), tmLet("y", 0, tmFn("x", tyInt, tmNum(1)), term), tmOf(impl.TmPair, term, tmFn("x", tyInt, tmVar("x")))} {
			notUnliked(t, why, whole)
			if impl.AllUnlike(whole) {
				t.Error(why, "AllUnlike")
			}
			if n := impl.Lambdas(whole); n != 0 {
				t.Error(why, "Lambdas", n)
			}
			if names := impl.Binders(whole); len(names) > 0 {
				t.Error(why, "Binders", names)
			}
			for _, n := range []int{0, 1, -1, math.MaxInt, math.MinInt} {
				if got, ok := impl.LambdaAt(whole, n); ok || !zeroTerm(got) {
					t.Error(why, "LambdaAt", n, got)
				}
			}
		}
	}
}

func TestBinders(t *testing.T) {
	for text, want := range map[string]string{
		"n 1": "", "v x 0": "", "op + v x 0 v y 0": "", "pair n 1 nil i": "", "fn x i n 1": "x", "let x 2 n 1 v y 0": "x", "fix f 1 f i i fn x i n 1 n 2": "f x", "case h r v x 0 v y 0 v z 0": "h r", "case r h v x 0 v y 0 v z 0": "r h", "try e n 1 n 2": "e",
		"let x 0 fn y i v y 0 fn z i v z 0": "x y z", "let z 0 fn y i v y 0 fn x i v z 0": "z y x", "let x 0 let x 0 n 1 v x 0 let x 0 n 2 v x 0": "x x x", "fix f 0 i fn f i let f 0 n 1 n 2 try f n 1 n 2": "f f f f",
		"case h r case a b n 1 n 2 n 3 case c d n 1 n 2 n 3 case e f n 1 n 2 n 3": "h r a b c d e f", "if fn c i n 1 fn b i n 1 fn a i n 1": "c b a", "try e fn b i n 1 fn a i v e 0": "e b a", "pair fn x i n 1 fn x i n 1": "x x",
		// free names are none of binders, also where a binder has the same
		"pair v x 0 let x 0 v x 0 v y 0": "x", "app fn v i v fn 0 v let 0": "v", "fn x.1 i let abcdefgh 0 n 1 n 2": "x.1 abcdefgh",
	} {
		if got := strings.Join(impl.Binders(parsedTerm(t, text)), " "); got != want || strings.Join(bindersInText(text), " ") != want {
			t.Errorf("%s: %q, not %q", text, got, want)
		}
	}
	for _, term := range slices.Concat(anyTerms(3000), typedTerms(1000), []impl.Term{mostBinders("x", "y"), termOfNodes(150)}) {
		if got := impl.Binders(term); !slices.Equal(got, bindersInText(plainTermText(term))) {
			t.Error(plainTermText(term), got)
		}
	}
}

func TestAllUnlike(t *testing.T) {
	for text, want := range map[string]bool{
		"n 1": true, "v x 0": true, "pair v x 0 v x 0": true, "fn x i v x 0": true, "fn x i fn y i n 1": true, "fn x i fn x i n 1": false, "let x 0 n 1 let y 0 n 2 n 3": true, "let x 0 n 1 let x 0 n 2 n 3": false,
		"let x 0 let x 0 n 1 n 2 n 3": false, "pair fn x i n 1 fn x i n 1": false, "pair fn x i n 1 fn y i n 1": true, "fix f 0 i fn x i n 1 n 2": true, "fix f 0 i fn f i n 1 n 2": false, "fix f 0 i fn x i n 1 fn x i n 2": false,
		"fix f 0 i fn x i n 1 fix g 0 i fn y i n 1 n 2": true, "fix f 0 i fn x i n 1 fix g 0 i fn f i n 1 n 2": false, "case h r n 1 n 2 n 3": true, "case h r fn h i n 1 n 2 n 3": false, "case h r n 1 fn r i n 2 n 3": false, "case h r n 1 n 2 fn r i n 3": false,
		"case h r n 1 n 2 case r s n 1 n 2 n 3": false, "case h r n 1 n 2 case s h n 1 n 2 n 3": false, "case h r n 1 n 2 case s q n 1 n 2 n 3": true, "case h r case s r n 1 n 2 n 3 n 2 n 3": false, "try e n 1 n 2": true, "try e try e n 1 n 2 n 3": false, "try e fn d i n 1 fn c i n 3": true,
		"try e n 1 let e 0 n 2 n 3": false, "let x 1 n 1 let y 2 n 2 let x 0 n 3 n 4": false, "fn x i fn x. i n 1": true, "fn x i fn xx i n 1": true, "fn abcdefgh i fn abcdefgi i n 1": true, "fn abcdefgh i fn abcdefgh i n 1": false,
		// free names are no binders
		"pair v x 0 fn x i v x 0": true, "let x 0 v x 0 v y 0": true, "let x 0 v y 0 let y 0 v x 0 v y 0": true, "pair v x 0 pair fn x i n 1 fn x i n 1": false,
	} {
		term := parsedTerm(t, text)
		if impl.AllUnlike(term) != want || noneTwice(bindersInText(text)) != want {
			t.Error(text, want)
		}
	}
	met := map[bool]int{}
	for _, term := range slices.Concat(anyTerms(3000), typedTerms(2000)) {
		want := noneTwice(bindersInText(plainTermText(term)))
		met[want]++
		if impl.AllUnlike(term) != want {
			t.Error(plainTermText(term), !want)
		}
	}
	if met[true] < 1000 || met[false] < 500 {
		t.Error("too few", met)
	}
}

// Any two binders of many are held against each other.
func TestAllUnlikeOfMany(t *testing.T) {
	most := plainUnlike(mostBinders("x", "y"))
	if !impl.AllUnlike(most) {
		t.Error("all are unlike")
	}
	for i := range 147 {
		for _, k := range []int{1, 2, 3, 9, 10, 72, 73, 74, 99, 100, 145, 146} {
			from, to := "a"+strconv.Itoa(i), "a"+strconv.Itoa(k)
			changed := evenTerm(most)
			for _, n := range plainNodesIn(&changed) {
				if n.t.K == impl.TmVar {
					continue
				}
				if n.t.S == from {
					n.t.S = to
				} else if n.t.Z == from {
					n.t.Z = to
				}
			}
			if impl.TermOk(changed) && impl.AllUnlike(changed) != (i == 0 || i == k) {
				t.Error(from, to)
			}
		}
	}
}

// lambdasAre fails when Lambdas and LambdaAt of a term do not tell just these.
func lambdasAre(t *testing.T, term impl.Term, want []impl.Term) {
	t.Helper()
	if n := impl.Lambdas(term); n != len(want) {
		t.Errorf("%s: %d functions, not %d", plainTermText(term), n, len(want))
	}
	for n := range want {
		if got, ok := impl.LambdaAt(term, n); !ok || !equalTerms(got, want[n]) || !impl.TermOk(got) {
			t.Errorf("%s: %d: %v and %q, not %q", plainTermText(term), n, ok, impl.TermText(got), plainTermText(want[n]))
		}
	}
	for _, n := range []int{len(want), len(want) + 1, -1, -2, -len(want) - 1, 1000, math.MaxInt, math.MinInt, math.MaxInt - 1, math.MinInt + 1, 1 << 32, -1 << 32, 1<<32 + 1} {
		if got, ok := impl.LambdaAt(term, n); ok || !zeroTerm(got) {
			t.Errorf("%s: %d: %v and %v", plainTermText(term), n, ok, got)
		}
	}
}

func TestLambdas(t *testing.T) {
	for text, want := range map[string][]string{
		// none, one, many
		"n 1": nil, "v x 0": nil, "let x 0 n 1 v x 0": nil, "case h r nil i n 1 n 2": nil, "nil f i i": nil,
		"fn x i v x 0": {"fn x i v x 0"}, "fn x i v y 0": {"fn x i v y 0"}, "fn x p v0 v1 v x 2 i b": {"fn x p v0 v1 v x 2 i b"}, "app fn x i n 1 n 2": {"fn x i n 1"}, "app n 1 fn x i n 2": {"fn x i n 2"},
		"pair fn x i n 1 fn x i n 2": {"fn x i n 1", "fn x i n 2"}, "if fn c i n 1 fn b i n 2 fn a i n 3": {"fn c i n 1", "fn b i n 2", "fn a i n 3"}, "pair fn x i n 1 fn x i n 1": {"fn x i n 1", "fn x i n 1"},
		// within another's body
		"fn x i fn y i fn z i n 1":               {"fn x i fn y i fn z i n 1", "fn y i fn z i n 1", "fn z i n 1"},
		"fn x i pair fn y i v x 0 fn z i v y 0":  {"fn x i pair fn y i v x 0 fn z i v y 0", "fn y i v x 0", "fn z i v y 0"},
		"pair fn x i fn y i n 1 fn z i n 2":      {"fn x i fn y i n 1", "fn y i n 1", "fn z i n 2"},
		"app app fn x i fn y i v x 0 n 1 n 2":    {"fn x i fn y i v x 0", "fn y i v x 0"},
		"cons fn x i fn x i v x 0 nil f i f i i": {"fn x i fn x i v x 0", "fn x i v x 0"},
		// in the first A of a fix and where it holds
		"fix f 0 f i i fn x i v x 0 v f 0":                                  {"fn x i v x 0"},
		"fix f 1 f v0 v0 fn x v0 app v f 0 v x 0 app v f 1 b t":             {"fn x v0 app v f 0 v x 0"},
		"fix f 0 f i i fn x i fn y i v f 0 fn z i v f 0":                    {"fn x i fn y i v f 0", "fn y i v f 0", "fn z i v f 0"},
		"fix f 0 i fn x i n 1 fix g 0 i fn y i n 2 n 3":                     {"fn x i n 1", "fn y i n 2"},
		"fix f 0 i fn x i fix g 0 i fn y i v x 0 fn z i v g 0 v f 0":        {"fn x i fix g 0 i fn y i v x 0 fn z i v g 0", "fn y i v x 0", "fn z i v g 0"},
		"let f 0 fn x i v x 0 fn y i v f 0":                                 {"fn x i v x 0", "fn y i v f 0"},
		"case h r fn x i n 1 fn y i n 2 fn z i v h 0":                       {"fn x i n 1", "fn y i n 2", "fn z i v h 0"},
		"try e fn x i n 1 fn y i v e 0":                                     {"fn x i n 1", "fn y i v e 0"},
		"raise i fst snd op + fn x i n 1 cons fn y i n 2 fn z i n 3":        {"fn x i n 1", "fn y i n 2", "fn z i n 3"},
		"let x 0 pair fn a i n 1 pair fn b i n 2 fn c i n 3 fst fn d i n 4": {"fn a i n 1", "fn b i n 2", "fn c i n 3", "fn d i n 4"},
	} {
		term := parsedTerm(t, text)
		var all []impl.Term
		for _, fn := range want {
			all = append(all, parsedTerm(t, fn))
		}
		if !slices.EqualFunc(all, plainLambdas(term), equalTerms) {
			t.Error("the test's own", text)
		}
		lambdasAre(t, term, all)
	}
}

func TestLambdasOfManyTerms(t *testing.T) {
	met := map[int]int{}
	for _, term := range slices.Concat(anyTerms(2000), typedTerms(1500), loopTerms(300), polyPrograms(300)) {
		want := plainLambdas(term)
		met[min(len(want), 10)]++
		lambdasAre(t, term, want)
	}
	for n := range 11 {
		if met[n] < 20 {
			t.Error("too few", met)
		}
	}
	// as many as there can be, one within the other and beside each other
	names := []string{"x", "y"}
	deepest := chain(names, 23, tmVar("x"))
	lambdasAre(t, deepest, plainLambdas(deepest))
	three := func(n int) impl.Term {
		return tmOf(impl.TmIf, chain(names, n, tmNum(1)), chain(names, n, tmNum(2)), chain(names, n, tmNum(3)))
	}
	most := tmOf(impl.TmIf, three(21), three(21), chain(names, 14, tmNum(4)))
	if impl.Lambdas(most) != 140 || plainNodes(most) != 150 {
		t.Error(impl.Lambdas(most), plainNodes(most))
	}
	lambdasAre(t, most, plainLambdas(most))
	for how, wrap := range wraps() {
		for _, times := range []int{1, 3, 10} {
			whole := wrapped(wrap, times, tmFn("deep", tyBool, tmVar("deep")))
			lambdasAre(t, whole, plainLambdas(whole))
			if n := impl.Lambdas(whole); n == 0 {
				t.Error(how, times)
			}
		}
	}
}

// P6: over many terms, against the test's own, and by what follows.
func TestUnlikeOfTermsByChance(t *testing.T) {
	ends, again, typed := map[int]int{}, map[bool]int{}, map[int]int{}
	for i, term := range nameTerms(1500) {
		want := asPlainUnlike(t, term)
		ends[runsTheSame(t, term, want, impl.MaxFuel).End]++
		runsTheSame(t, term, want, i%50)
		runsTheSame(t, term, want, i%3000)
		unlikedTerm(t, want, want)
		again[equalTerms(term, want)]++
		_, code := impl.TypeOf(term)
		typed[code]++
		fns, others := plainLambdas(term), plainLambdas(want)
		for k := range fns {
			if bare(fns[k]) != bare(others[k]) {
				t.Error("another function", k, plainTermText(term))
			}
		}
	}
	if ends[impl.EndValue] < 1500 || ends[impl.EndRaise] < 500 || ends[impl.EndFuel] < 100 || again[false] < 3000 || typed[impl.CheckGood] < 2000 || typed[impl.CheckType] < 300 || typed[impl.CheckPoly] < 1000 {
		t.Error("too few", ends, again, typed)
	}
}

// With all the fuel that it takes, one less and one more: each step is the same.
func TestUnlikeStepByStep(t *testing.T) {
	for _, term := range loopTerms(150) {
		other, _ := impl.Unlike(term)
		steps := impl.Steps(term, impl.MaxFuel)
		for _, fuel := range []int{0, 1, 2, 3, steps / 3, steps / 2, steps - 1, steps, steps + 1} {
			if fuel >= 0 && fuel <= impl.MaxFuel {
				runsTheSame(t, term, other, fuel)
			}
		}
	}
}

// Whatever names a term had, the same comes.
func TestUnlikeForgetsTheOldNames(t *testing.T) {
	r := rand.New(rand.NewSource(9))
	for _, term := range nameTerms(600) {
		want, _ := impl.Unlike(term)
		other := evenTerm(want)
		names := map[string]string{}
		order := r.Perm(300)
		for _, n := range plainNodesIn(&other) {
			for _, s := range []*string{&n.t.S, &n.t.Z} {
				if *s == "" {
					continue
				}
				if names[*s] == "" {
					names[*s] = "a" + strconv.Itoa(order[len(names)])
				}
				*s = names[*s]
			}
		}
		unlikedTerm(t, other, want)
		if impl.AllUnlike(other) != impl.AllUnlike(want) {
			t.Error(plainTermText(other))
		}
	}
}

// nameArguments are terms of all sorts, right and wrong.
func nameArguments() []impl.Term {
	all := slices.Concat(nameTerms(200), anyTerms(200), []impl.Term{mostBinders("x", "y"), deepestLets("x"), termOfNodes(151), sumOfNodes(150)})
	for _, c := range kindCases() {
		all = append(all, c.term)
	}
	for _, term := range wrongFields() {
		all = append(all, term)
	}
	return all
}

func TestNameArgumentsStay(t *testing.T) {
	for _, term := range nameArguments() {
		roomy := roomyTerm(term)
		kept := fullTerm(roomy)
		impl.Unlike(roomy)
		impl.AllUnlike(roomy)
		impl.Binders(roomy)
		for n := range impl.Lambdas(roomy) + 1 {
			impl.LambdaAt(roomy, n)
		}
		if !reflect.DeepEqual(fullTerm(roomy), kept) {
			t.Fatal("an argument was written to", term)
		}
	}
}

// What lies behind a list's length is not there.
func TestNameSpareRoomIsNotRead(t *testing.T) {
	for _, term := range nameArguments() {
		roomy := roomyTerm(term)
		want, right := impl.Unlike(term)
		if got, ok := impl.Unlike(roomy); ok != right || !equalTerms(got, want) {
			t.Error("Unlike", impl.TermText(term))
		}
		if impl.AllUnlike(roomy) != impl.AllUnlike(term) || !slices.Equal(impl.Binders(roomy), impl.Binders(term)) {
			t.Error("binders", impl.TermText(term))
		}
		for n := range impl.Lambdas(term) + 1 {
			want, there := impl.LambdaAt(term, n)
			if got, ok := impl.LambdaAt(roomy, n); ok != there || !equalTerms(got, want) {
				t.Error("LambdaAt", n, impl.TermText(term))
			}
		}
		if impl.Lambdas(roomy) != impl.Lambdas(term) {
			t.Error("Lambdas", impl.TermText(term))
		}
	}
}

func TestNameAnswersAreNewMemory(t *testing.T) {
	// with one list at many places
	shared := tmFn("x", tyPair(tyList(tyInt), tyBool), tmVar("x", tyList(tyV0), tyFun(tyV1, tyInt)))
	for _, term := range append(nameArguments(), tmShared(4, shared), tmLet("y", 2, shared, tmShared(3, shared)), tmFix("f", 0, shared.T, shared, shared)) {
		roomy := roomyTerm(term)
		for _, argument := range []impl.Term{roomy, term} {
			first, _ := impl.Unlike(argument)
			second, _ := impl.Unlike(argument)
			answers := append(placesOf(first), placesOf(second)...)
			for n := range impl.Lambdas(argument) {
				fn, _ := impl.LambdaAt(argument, n)
				answers = append(answers, placesOf(fn)...)
			}
			ownPlaces(t, impl.TermText(term), answers, placesOf(argument))
		}
	}
	whole := mostBinders("x", "y")
	first, second := impl.Binders(whole), impl.Binders(whole)
	clear(first[:cap(first)])
	if !slices.Equal(second, bindersInText(plainTermText(whole))) {
		t.Error("two lists of names share their memory")
	}
}

// Nothing is kept from one call to another: the numbers begin anew.
func TestNamesKeepNothing(t *testing.T) {
	all := nameArguments()
	var texts []string
	for _, term := range all {
		got, _ := impl.Unlike(term)
		texts = append(texts, impl.TermText(got)+strings.Join(impl.Binders(term), " "))
	}
	for i, term := range slices.Backward(all) {
		impl.Lambdas(all[len(all)-1-i])
		if got, _ := impl.Unlike(term); impl.TermText(got)+strings.Join(impl.Binders(term), " ") != texts[i] {
			t.Error(plainTermText(term), impl.TermText(got), texts[i])
		}
	}
}
