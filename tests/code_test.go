package tests

import (
	"fmt"
	"math"
	"math/rand"
	"reflect"
	"slices"
	"strconv"
	"strings"
	"testing"

	"loop.example/g00187/impl"
)

func TestCodeConstants(t *testing.T) {
	ops := []int{impl.OpNum, impl.OpBool, impl.OpNil, impl.OpMove, impl.OpArith, impl.OpPair, impl.OpCons, impl.OpMake, impl.OpFirst, impl.OpSecond, impl.OpIfNot, impl.OpIfNil, impl.OpJump, impl.OpCall, impl.OpRet, impl.OpRaise, impl.OpTry, impl.OpEnd}
	for at, op := range ops {
		if op != at+1 {
			t.Error(at, op)
		}
	}
}

// lowerCase is a Prog as toldProg reads it, and its Code as toldCode does.
type lowerCase struct{ text, want string }

func loweredAll(t *testing.T, cases []lowerCase) {
	t.Helper()
	for _, c := range cases {
		lowered(t, c.text, c.want)
	}
}

func TestLowerOfEachKind(t *testing.T) {
	loweredAll(t, []lowerCase{
		{"main n 5", "main 1: num 0 5; ret 0"}, {"main n -1000000", "main 1: num 0 -1000000; ret 0"}, {"main n 0", "main 1: num 0 0; ret 0"}, {"main t", "main 1: bool 0 1; ret 0"}, {"main u", "main 1: bool 0 0; ret 0"}, {"main nil", "main 1: nil 0; ret 0"},
		{"main let x n 1 v x", "main 1: num 0 1; ret 0"}, {"main let x n 1 n 2", "main 2: num 0 1; num 1 2; ret 1"}, {"main pair n 1 t", "main 3: num 0 1; bool 1 1; pair 2 0 1; ret 2"}, {"main cons n 1 nil", "main 3: num 0 1; nil 1; cons 2 0 1; ret 2"},
		{"main op + n 2 n 3", "main 3: num 0 2; num 1 3; add 2 0 1; ret 2"}, {"main op - n 2 n 3", "main 3: num 0 2; num 1 3; sub 2 0 1; ret 2"}, {"main op * n 2 n 3", "main 3: num 0 2; num 1 3; mul 2 0 1; ret 2"}, {"main op < n 2 n 3", "main 3: num 0 2; num 1 3; less 2 0 1; ret 2"}, {"main op = n 2 n 3", "main 3: num 0 2; num 1 3; same 2 0 1; ret 2"},
		{"main fst pair n 1 t", "main 4: num 0 1; bool 1 1; pair 2 0 1; first 3 2; ret 3"}, {"main snd pair n 1 t", "main 4: num 0 1; bool 1 1; pair 2 0 1; second 3 2; ret 3"}, {"main raise n 5", "main 2: num 0 5; raise 0; num 1 0; ret 1"},
		{"main if t n 1 n 2", "main 4: bool 0 1; ifnot 0 5; num 2 1; move 1 2; jump 7; num 3 2; move 1 3; ret 1"},
		{"main case h r nil n 1 v h", "main 5: nil 0; ifnil 0 6; first 2 0; second 3 0; move 1 2; jump 8; num 4 1; move 1 4; ret 1"},
		{"main try e n 1 v e", "main 3: try 1 5; num 2 1; end; move 0 2; jump 6; move 0 1; ret 0"},
		{"fun 4 0 x v x | main make 4 0", "fun 4 1 1: ret 0 | main 1: make 0 4; ret 0"}, {"fun 4 0 x v x | main call 1 4 make 4 0 n 8", "fun 4 1 1: ret 0 | main 3: make 0 4; num 1 8; call 2 0 1 4; ret 2"}, {"main call 0 n 1 n 2", "main 3: num 0 1; num 1 2; call 2 0 1; ret 2"},
		{"fun 4 2 a b x op - v a v x | main let p n 1 let q n 2 make 4 2 q p", "fun 4 3 4: sub 3 0 2; ret 3 | main 3: num 0 1; num 1 2; make 2 4 1 0; ret 2"},
	})
}

// The register of a name is that of its binder, of each kind; one that hides another one has its own.
func TestLowerOfNames(t *testing.T) {
	loweredAll(t, []lowerCase{
		// by a let: what it is may itself be a name
		{"main let x n 1 let y v x let z v y pair v z v x", "main 2: num 0 1; pair 1 0 0; ret 1"}, {"main let x n 1 let y n 2 pair v y v x", "main 3: num 0 1; num 1 2; pair 2 1 0; ret 2"}, {"main let x if t n 1 n 2 pair v x v x", "main 5: bool 0 1; ifnot 0 5; num 2 1; move 1 2; jump 7; num 3 2; move 1 3; pair 4 1 1; ret 4"},
		// by a case
		{"main case h r cons n 1 nil n 2 pair v r v h", "main 8: num 0 1; nil 1; cons 2 0 1; ifnil 2 9; first 4 2; second 5 2; pair 6 5 4; move 3 6; jump 11; num 7 2; move 3 7; ret 3"},
		// by a try
		{"main try e raise n 1 pair v e v e", "main 5: try 1 7; num 2 1; raise 2; num 3 0; end; move 0 3; jump 9; pair 4 1 1; move 0 4; ret 0"},
		// by what a Fun captures, and by its argument
		{"fun 3 2 a b x pair v x pair v b v a | main n 1", "fun 3 3 5: pair 3 1 0; pair 4 2 3; ret 4 | main 1: num 0 1; ret 0"}, {"fun 3 2 a b x v a | main n 1", "fun 3 3 3: ret 0 | main 1: num 0 1; ret 0"}, {"fun 3 2 a b x v b | main n 1", "fun 3 3 3: ret 1 | main 1: num 0 1; ret 0"}, {"fun 3 2 a b x v x | main n 1", "fun 3 3 3: ret 2 | main 1: num 0 1; ret 0"}, {"fun 3 0 x v x | main n 1", "fun 3 1 1: ret 0 | main 1: num 0 1; ret 0"},
		// names of a record
		{"fun 3 3 a b c x n 1 | main let p n 1 case q r nil n 0 try s n 3 make 3 3 s p r", "fun 3 4 5: num 4 1; ret 4 | main 10: num 0 1; nil 1; ifnil 1 14; first 3 1; second 4 1; try 6 10; num 7 3; end; move 5 7; jump 12; make 8 3 6 0 4; move 5 8; move 2 5; jump 16; num 9 0; move 2 9; ret 2"},
		{"fun 3 1 a x make 3 1 x | main let p n 1 make 3 1 p", "fun 3 2 3: make 2 3 1; ret 2 | main 2: num 0 1; make 1 3 0; ret 1"}, {"fun 3 2 a b x make 3 2 a a | main n 1", "fun 3 3 4: make 3 3 0 0; ret 3 | main 1: num 0 1; ret 0"},
	})
}

func TestLowerOfNamesThatHide(t *testing.T) {
	loweredAll(t, []lowerCase{
		{"main let x n 1 let x n 2 v x", "main 2: num 0 1; num 1 2; ret 1"}, {"main let x n 1 pair let x n 2 v x v x", "main 3: num 0 1; num 1 2; pair 2 1 0; ret 2"}, {"main let x n 1 let x pair v x v x pair v x v x", "main 3: num 0 1; pair 1 0 0; pair 2 1 1; ret 2"}, {"main let x n 1 let x v x v x", "main 1: num 0 1; ret 0"},
		// a case hides in its last part alone, and no longer behind it
		{"main let h n 1 pair case h r nil v h v h v h", "main 6: num 0 1; nil 1; ifnil 1 7; first 3 1; second 4 1; move 2 3; jump 8; move 2 0; pair 5 2 0; ret 5"}, {"main let r nil case h r v r v r v r", "main 4: nil 0; ifnil 0 6; first 2 0; second 3 0; move 1 3; jump 7; move 1 0; ret 1"},
		// a try hides in what is done alone
		{"main let e n 1 pair try e v e v e v e", "main 4: num 0 1; try 2 5; end; move 1 0; jump 6; move 1 2; pair 3 1 0; ret 3"}, {"main try e n 1 try e v e v e", "main 5: try 1 5; num 2 1; end; move 0 2; jump 11; try 4 9; end; move 3 1; jump 10; move 3 4; move 0 3; ret 0"},
		// an argument hides what is captured, a later name an earlier one, and a let hides them
		{"fun 3 1 x x v x | main n 1", "fun 3 2 2: ret 1 | main 1: num 0 1; ret 0"}, {"fun 3 2 a a x v a | main n 1", "fun 3 3 3: ret 1 | main 1: num 0 1; ret 0"}, {"fun 3 1 a x pair let a v x v a v a | main n 1", "fun 3 2 3: pair 2 1 0; ret 2 | main 1: num 0 1; ret 0"}, {"fun 3 1 a x let x n 5 make 3 1 x | main n 1", "fun 3 2 4: num 2 5; make 3 3 2; ret 3 | main 1: num 0 1; ret 0"},
		// the same name in two Funs, and in Main
		{"fun 3 1 a x v a | fun 5 1 x a v a | main let x n 1 let a n 2 v a", "fun 3 2 2: ret 0 | fun 5 2 2: ret 1 | main 2: num 0 1; num 1 2; ret 1"},
	})
}

// Registers are taken anew, one behind the other, from In on; nothing takes one twice.
func TestLowerOfTermsWithinTerms(t *testing.T) {
	loweredAll(t, []lowerCase{
		{"main pair pair n 1 n 2 pair n 3 n 4", "main 7: num 0 1; num 1 2; pair 2 0 1; num 3 3; num 4 4; pair 5 3 4; pair 6 2 5; ret 6"},
		{"main if if t u t n 1 n 2", "main 7: bool 0 1; ifnot 0 5; bool 2 0; move 1 2; jump 7; bool 3 1; move 1 3; ifnot 1 11; num 5 1; move 4 5; jump 13; num 6 2; move 4 6; ret 4"},
		{"main if t if u n 1 n 2 n 3", "main 7: bool 0 1; ifnot 0 11; bool 2 0; ifnot 2 7; num 4 1; move 3 4; jump 9; num 5 2; move 3 5; move 1 3; jump 13; num 6 3; move 1 6; ret 1"},
		{"main if t n 1 if u n 2 n 3", "main 7: bool 0 1; ifnot 0 5; num 2 1; move 1 2; jump 13; bool 3 0; ifnot 3 10; num 5 2; move 4 5; jump 12; num 6 3; move 4 6; move 1 4; ret 1"},
		{"main try e try d n 1 v d v e", "main 5: try 1 10; try 3 6; num 4 1; end; move 2 4; jump 7; move 2 3; end; move 0 2; jump 11; move 0 1; ret 0"},
		{"main raise raise n 1", "main 3: num 0 1; raise 0; num 1 0; raise 1; num 2 0; ret 2"},
		{"main case a b case c d nil nil v d n 1 case e f v b v a v e", "main 12: nil 0; ifnil 0 6; first 2 0; second 3 0; move 1 3; jump 8; nil 4; move 1 4; ifnil 1 19; first 6 1; second 7 1; ifnil 7 16; first 9 7; second 10 7; move 8 9; jump 17; move 8 6; move 5 8; jump 21; num 11 1; move 5 11; ret 5"},
		// in a Fun, behind what it captures and its argument
		{"fun 9 2 a b x if v x pair v a n 7 v b | main n 1", "fun 9 3 6: ifnot 2 5; num 4 7; pair 5 0 4; move 3 5; jump 6; move 3 1; ret 3 | main 1: num 0 1; ret 0"},
		{"fun 9 0 x try e raise v x v e | main call 1 9 make 9 0 n 4", "fun 9 1 4: try 2 6; raise 0; num 3 0; end; move 1 3; jump 7; move 1 2; ret 1 | main 3: make 0 9; num 1 4; call 2 0 1 9; ret 2"},
		// several Funs, and calls with several Cases
		{"fun 0 0 x n 1 | fun 1 0 x v x | fun 149 1 a x pair v a v x | main call 3 0 1 149 make 1 0 n 2", "fun 0 1 2: num 1 1; ret 1 | fun 1 1 1: ret 0 | fun 149 2 3: pair 2 0 1; ret 2 | main 3: make 0 1; num 1 2; call 2 0 1 0 1 149; ret 2"},
		{"fun 2 0 x call 2 2 5 make 5 1 x v x | fun 5 1 a x call 1 2 v a v x | main n 1", "fun 2 1 3: make 1 5 0; call 2 1 0 2 5; ret 2 | fun 5 2 3: call 2 0 1 2; ret 2 | main 1: num 0 1; ret 0"},
	})
}

// One term in each place of each kind, what stands there being of each kind that goes two ways.
func TestLowerInEachPlace(t *testing.T) {
	inner := []impl.FTerm{
		ftOf(impl.TmIf, impl.FTerm{K: impl.TmBool}, ftNum(1), ftNum(2)), ftCase("h", "r", ftOf(impl.TmCons, ftNum(3), ftOf(impl.TmNil)), ftNum(1), ftVar("h")), ftCase("h", "r", ftOf(impl.TmNil), ftNum(1), ftVar("r")), ftTry("e", ftOf(impl.TmRaise, ftNum(4)), ftVar("e")),
		ftOf(impl.TmRaise, ftNum(6)), ftLet("z", ftNum(8), ftOf(impl.TmPair, ftVar("z"), ftVar("z"))), ftCall(ftMake(2), ftNum(9), 2), ftMake(2),
	}
	for how, wrap := range bareWraps() {
		for at, term := range inner {
			for _, other := range bareWraps() {
				p := progOf(wrap(other(wrap(term))), ftFun(2, "x", ftVar("x")))
				c := asPlainLower(t, p)
				if _, w := endsAsItsProg(t, p, c); w.steps == 0 {
					t.Error(how, at)
				}
			}
		}
	}
}

func TestLowerRefusesWhatIsNotRight(t *testing.T) {
	notLowered(t, "zero", impl.Prog{})
	whole := fullerProg()
	asPlainLower(t, whole)
	refused := 0
	look := func(why string, p impl.Prog) {
		if len(progFaults(p)) == 0 {
			asPlainLower(t, p)
			return
		}
		refused++
		notLowered(t, why, p)
	}
	for at := range progNodes(&whole) {
		for why, change := range spoiling() {
			p := fullerProg()
			change(progNodes(&p)[at])
			look(why, p)
		}
	}
	for at := range whole.Funs {
		for why, change := range funSpoiling() {
			p := fullerProg()
			change(&p.Funs[at])
			look(why, p)
		}
	}
	for why, p := range map[string]impl.Prog{
		"201 nodes": progOf(bareOfNodes(201)), "a Lam twice": progOf(ftNum(1), ftFun(1, "x", ftNum(1)), ftFun(1, "x", ftNum(1))), "Lam 150": progOf(ftNum(1), ftFun(150, "x", ftNum(1))), "Lam -1": progOf(ftNum(1), ftFun(-1, "x", ftNum(1))),
		"a free name": progOf(ftVar("x")), "a record of no Fun": progOf(ftMake(3)), "a case of no Fun": progOf(ftCall(ftNum(1), ftNum(1), 3)), "a number": progOf(ftNum(1000001)),
	} {
		refused++
		notLowered(t, why, p)
	}
	deep := ftNum(1)
	for range 24 {
		deep = ftOf(impl.TmFst, deep)
	}
	notLowered(t, "25 deep", progOf(deep))
	notLowered(t, "25 deep in a Fun", progOf(ftNum(1), ftFun(1, "x", deep)))
	itself := []impl.FTerm{ftNum(1), {}}
	itself[1] = impl.FTerm{K: impl.TmPair, A: itself}
	notLowered(t, "holds itself", progOf(itself[1]))
	if refused < 200 {
		t.Error("too few", refused)
	}
}

// names are as many names as are wanted, each another one.
func manyNames(n int) []string {
	var names []string
	for i := range n {
		names = append(names, "n"+strconv.Itoa(i))
	}
	return names
}

// 400 registers are right, one more is not: by what is captured, by what is taken anew, in each Piece.
func TestLowerAtTheMostRegisters(t *testing.T) {
	pairs := func(n int) impl.FTerm { return bareOfNodes(2*n + 1) }
	for captured, bodies := range map[int]map[int]impl.FTerm{
		398: {399: ftVar("x"), 400: ftNum(1), 401: ftOf(impl.TmRaise, ftNum(1)), 402: ftOf(impl.TmPair, ftNum(1), ftNum(2))},
		399: {400: ftVar("n0"), 401: ftNum(1)},
		400: {401: ftVar("x"), 402: ftNum(1)},
		// 2 n + 1 nodes, a register each
		350: {350 + 1 + 49: pairs(24), 350 + 1 + 51: pairs(25)},
		351: {351 + 1 + 47: pairs(23), 351 + 1 + 49: pairs(24)},
		201: {201 + 1 + 198: bareOfNodes(198), 201 + 1 + 199: bareOfNodes(199)},
		0:   {2: ftNum(1), 1: ftVar("x")},
	} {
		for regs, body := range bodies {
			p := progOf(ftNum(1), ftFun(3, "x", body, manyNames(captured)...))
			progIs(t, "captured", p, "")
			own := plainLower(p)
			if own.Funs[0].Regs != regs {
				t.Error("the test's own", captured, regs, own.Funs[0].Regs)
			}
			if regs <= 400 {
				asPlainLower(t, p)
				codeIs(t, "captured", own, "")
			} else {
				notLowered(t, "captured "+strconv.Itoa(captured)+" regs "+strconv.Itoa(regs), p)
				codeIs(t, "captured", own, "regs")
			}
		}
	}
	// all of them are made and called
	names := manyNames(399)
	whole := ftCall(ftMake(3, slices.Repeat([]string{"p"}, 399)...), ftNum(7), 3)
	p := progOf(ftLet("p", ftNum(5), whole), ftFun(3, "x", ftVar("n398"), names...))
	c := asPlainLower(t, p)
	if end, _ := endsAsItsProg(t, p, c); c.Funs[0].Regs != 400 || end != isValue("5") {
		t.Error(end, c.Funs[0].Regs)
	}
	// one Piece that is too great among others
	p.Funs = append(p.Funs, ftFun(4, "x", ftNum(1), names...))
	notLowered(t, "the second Fun", p)
	p.Funs = []impl.Fun{ftFun(2, "x", ftNum(1), names...), p.Funs[0]}
	notLowered(t, "the first Fun", p)
	p = progOf(ftNum(1), ftFun(3, "x", ftNum(1), manyNames(50000)...))
	notLowered(t, "very many names", p)
}

// triesOf has so many tries, as flat as can be; the last of all is this term.
func triesOf(n int, last impl.FTerm) impl.FTerm {
	if n == 0 {
		return last
	}
	half := (n - 1) / 2
	return ftTry("e", triesOf(half, ftNum(1)), triesOf(n-1-half, last))
}

// casesOf has so many cases, as flat as can be; the last of all is this term.
func casesOf(n int, last impl.FTerm) impl.FTerm {
	if n == 0 {
		return last
	}
	third := (n - 1) / 3
	return ftCase("h", "r", casesOf(third, ftOf(impl.TmNil)), casesOf(third, ftNum(2)), casesOf(n-1-2*third, last))
}

// The greatest Progs there are: no Prog of 200 nodes comes to 600 Ins.
func TestLowerOfTheGreatestProgs(t *testing.T) {
	for _, c := range []struct {
		why       string
		main      impl.FTerm
		ins, regs int
	}{
		{"tries", triesOf(99, ftOf(impl.TmRaise, ftNum(1))), 598, 299}, {"tries and a case", triesOf(98, casesOf(1, ftNum(1))), 598, 300}, {"cases", casesOf(66, ftOf(impl.TmRaise, ftNum(3))), 532, 332}, {"pairs", bareOfNodes(200), 201, 200},
	} {
		p := progOf(c.main)
		progIs(t, c.why, p, "")
		if nodes := len(progNodes(&p)); nodes != 200 {
			t.Error("the test's own", c.why, nodes)
		}
		code := asPlainLower(t, p)
		if len(code.Main.Ins) != c.ins || code.Main.Regs != c.regs || impl.Count(code) != c.ins {
			t.Error(c.why, len(code.Main.Ins), code.Main.Regs)
		}
		endsAsItsProg(t, p, code)
		// and in a Fun
		p = progOf(ftNum(1), ftFun(9, "x", c.main))
		notLowered(t, "201 nodes", p)
	}
	for how, wrap := range bareWraps() {
		term := ftNum(1)
		for range 23 {
			term = wrap(term)
		}
		for _, p := range []impl.Prog{progOf(term), progOf(ftCall(ftMake(0), ftNum(2), 0), ftFun(0, "x", term))} {
			progIs(t, how, p, "")
			endsAsItsProg(t, p, asPlainLower(t, p))
		}
		notLowered(t, how, progOf(wrap(term)))
	}
	// many functions that capture much
	var funs []impl.Fun
	body := bareOfNodes(1)
	names := manyNames(300)
	for lam := range 150 {
		funs = append(funs, ftFun(lam, "x", body, names...))
	}
	p := progOf(ftLet("p", ftNum(1), ftCall(ftMake(149, slices.Repeat([]string{"p"}, 300)...), ftNum(1), 0, 149)), funs...)
	c := asPlainLower(t, p)
	if end, _ := endsAsItsProg(t, p, c); end != isValue("1") || len(c.Funs) != 150 || impl.Count(c) != 305 {
		t.Error(end, len(c.Funs), impl.Count(c))
	}
	// each makes the next one of all that it captures
	for lam := range 40 {
		funs[lam] = ftFun(lam, "x", ftCall(ftMake(lam+1, names...), ftVar("n"+strconv.Itoa(lam)), lam+1), names...)
	}
	p = progOf(ftLet("p", ftNum(6), ftCall(ftMake(0, slices.Repeat([]string{"p"}, 300)...), ftNum(1), 0)), append(slices.Clone(funs[:40]), ftFun(40, "x", ftVar("x"), names...))...)
	if end, w := endsAsItsProg(t, p, asPlainLower(t, p)); end != isValue("6") || w.deep != 42 {
		t.Error(end, w.deep)
	}
}

// Progs by chance, whatever they come to: each is lowered as the test's own, and ends as it does where nothing is wrong.
func TestLowerByChance(t *testing.T) {
	t.Parallel()
	values, raises, fuels, right, caught, noCase, loose := 0, 0, 0, 0, 0, 0, 0
	for _, p := range anyProgs(2500) {
		c := asPlainLower(t, p)
		end, w := endsAsItsProg(t, p, c)
		switch end.End {
		case impl.EndValue:
			values++
		case impl.EndRaise:
			raises++
		default:
			fuels++
		}
		if w.wrong == 0 {
			right++
		}
		if w.caught > 0 {
			caught++
		}
		if w.noCase > 0 {
			noCase++
		}
		if w.loose > 0 {
			loose++
		}
	}
	if values < 500 || raises < 300 || fuels < 20 || right < 500 || caught < 100 || noCase < 20 {
		t.Error("too few", values, raises, fuels, right, caught, noCase, loose)
	}
}

// What follows: the code of a term ends as the term does.
func TestCodeEndsAsItsTerm(t *testing.T) {
	t.Parallel()
	values, raises, fuels, wrong, typed, calls := 0, 0, 0, 0, 0, 0
	for _, term := range slices.Concat(flowTerms(500), knots(1200), calledTerms(300)) {
		p, ok := impl.Defun(term)
		if !ok {
			t.Fatal(plainTermText(term))
		}
		c, ok := impl.Lower(p)
		if !ok || !equalCodes(c, plainLower(p)) {
			t.Errorf("%s: %v and %s", plainTermText(term), ok, codeText(c))
			continue
		}
		before := impl.Run(term, impl.MaxFuel)
		after, w := endsAsItsProg(t, p, c)
		_, code := impl.TypeOf(term)
		if code == impl.CheckGood {
			typed++
			if w.wrong > 0 || w.loose > 0 {
				t.Errorf("%s: %d are not what is wanted", plainTermText(term), w.wrong+w.loose)
			}
		}
		if plainWrong(term, impl.MaxFuel) > 0 {
			wrong++
			continue
		}
		if !impl.SameEnd(before, after) || after.End == 0 {
			t.Errorf("%s: ends with %v, not %v", plainTermText(term), after, before)
		}
		if w.noCase > 0 {
			t.Errorf("%s: %d calls without a case", plainTermText(term), w.noCase)
		}
		switch after.End {
		case impl.EndValue:
			values++
		case impl.EndRaise:
			raises++
		default:
			fuels++
		}
		if w.deep > 2 {
			calls++
		}
	}
	if values < 800 || raises < 200 || fuels < 5 || wrong < 100 || typed < 800 || calls < 400 {
		t.Error("too few", values, raises, fuels, wrong, typed, calls)
	}
}

// The text of a term, all the way.
func TestCodeOfTexts(t *testing.T) {
	for text, want := range map[string]string{
		"fix f 0 f i i fn x i if op < v x 0 n 1 n 0 op + v x 0 app v f 0 op - v x 0 n 1 app v f 0 n 10":                                                                                                              "55",
		"let a 0 n 3 fix f 0 f i i fn x i fix g 0 f i i fn y i if op < v y 0 n 1 if op < v x 0 n 1 v a 0 app v f 0 op - v x 0 n 1 op + n 1 app v g 0 op - v y 0 n 1 app v g 0 v x 0 app v f 0 n 4":                   "13",
		"fix map 0 f f i i f l i l i fn f f i i fn l l i case h r v l 0 nil i cons app v f 0 v h 0 app app v map 0 v f 0 v r 0 let k 0 n 7 app app v map 0 fn z i op * v z 0 v k 0 cons n 1 cons n 2 cons n 3 nil i": "[7,14,21]",
		"fix f 0 f i i fn x i if op < v x 0 n 1 raise i n 9 app v f 0 op - v x 0 n 1 try e app v f 0 n 3 op + v e 0 n 1":                                                                                             "10",
		"fix f 0 f i i fn x i try e if op < v x 0 n 1 raise i n 9 app v f 0 op - v x 0 n 1 raise i op + v e 0 n 1 app v f 0 n 3":                                                                                     "raise 13",
		"fix f 0 f i i fn x i app v f 0 v x 0 app v f 0 n 3":  "fuel",
		"fix f 0 f i i fn x i v f 0 pair v f 0 app v f 0 n 1": "(fn,fn)",
		"pair fn x i v x 0 cons fn y i v y 0 nil f i i":       "(fn,[fn])",
	} {
		term := parsedTerm(t, text)
		p := asPlainDefun(t, term)
		if end, _ := endsAsItsProg(t, p, asPlainLower(t, p)); end != ends(want) {
			t.Errorf("%s: %v, not %s", text, end, want)
		}
	}
}

// Where a raise goes on, in code of terms: what a try within a try does, in what is tried and in what is done.
func TestCodeOfTries(t *testing.T) {
	for text, want := range map[string]string{
		"main try e raise n 5 v e": "5", "main try e n 1 raise n 2": "1", "main raise n 5": "raise 5", "main try e raise n 5 raise op + v e n 1": "raise 6",
		// in what is tried
		"main try e try d raise n 5 op + v d n 1 n 0": "6", "main try e try d raise n 5 raise op + v d n 1 op * v e n 2": "12", "main try e pair try d raise n 5 v d raise n 7 pair v e v e": "(7,7)", "main try e pair raise n 7 try d raise n 5 v d pair v e v e": "(7,7)", "main try e try d n 3 raise n 4 raise n 6": "3",
		"main try e op + try d raise n 5 v d try c raise n 6 v c n 0": "11", "main try e try d try c raise n 1 raise op + v c n 1 raise op + v d n 1 op + v e n 1": "4",
		// in what is done
		"main try e raise n 5 try d raise op + v e n 1 pair v e v d": "(5,6)", "main try e raise n 5 try d v e n 0": "5", "main try e raise n 5 try d raise n 6 raise op + v d v e": "raise 11", "main pair try e raise n 1 v e raise n 2": "raise 2",
		// behind what is tried
		"main let x try e n 1 n 2 raise n 7": "raise 7", "main let x try e raise n 1 n 2 raise n 7": "raise 7", "main try d let x try e n 1 n 2 raise n 7 v d": "7", "main try d let x try e raise n 1 n 2 raise n 7 v d": "7",
		// raises that no TmRaise makes
		"main try e op + n 1000000 n 1 v e": "-1", "main try e fst n 1 v e": "-2", "fun 1 0 x v x | main try e call 0 make 1 0 n 1 v e": "-3", "main op * n 1000000 n -2": "raise -1", "main if n 1 n 2 n 3": "raise -2", "fun 1 0 x v x | main call 0 make 1 0 n 1": "raise -3",
		"main try e raise n -1 v e": "-1", "main try e raise n -2 v e": "-2", "main try e raise n -3 v e": "-3", "main try e raise t v e": "-2", "main try e if nil n 1 n 2 v e": "-2", "main try e case h r t n 1 n 2 v e": "-2", "main try e snd nil v e": "-2", "main try e op < n 1 t v e": "-2", "main try e call 0 n 1 n 2 v e": "-2",
		// in a Piece that was called within what is tried, one and several calls deep
		"fun 1 0 x raise v x | main try e call 1 1 make 1 0 n 5 op + v e n 1": "6", "fun 1 0 x raise v x | fun 2 0 x pair call 1 1 make 1 0 v x n 1 | main try e call 1 2 make 2 0 n 5 op + v e n 1": "6", "fun 1 0 x raise v x | fun 2 0 x pair call 1 1 make 1 0 v x n 1 | fun 3 0 x pair call 1 2 make 2 0 v x n 1 | main try e call 1 3 make 3 0 n 5 op + v e n 1": "6",
		// what tries lies between: the innermost one that is called within
		"fun 1 0 x raise v x | fun 2 0 x try e call 1 1 make 1 0 v x op + v e n 10 | main try e call 1 2 make 2 0 n 5 n 0": "15", "fun 1 0 x raise v x | fun 2 0 x try e call 1 1 make 1 0 v x raise op + v e n 10 | main try e call 1 2 make 2 0 n 5 pair v e t": "(15,t)", "fun 1 0 x raise v x | fun 2 0 x pair try e n 1 n 2 call 1 1 make 1 0 v x | main try e call 1 2 make 2 0 n 5 pair v e t": "(5,t)",
		"fun 1 0 x try e raise v x op + v e n 1 | main call 1 1 make 1 0 n 5": "6", "fun 1 0 x try e v x n 9 | main op + call 1 1 make 1 0 n 5 raise n 8": "raise 8", "fun 1 0 x try e v x n 9 | main try d op + call 1 1 make 1 0 n 5 raise n 8 v d": "8",
		// what was bound ahead of it is as it was
		"main let a n 1 try e let b n 2 raise op + v a v b pair v a v e": "(1,3)", "fun 1 2 p q x let y op + v p v q raise op + v y v x | main let a n 1 let b n 20 try e call 1 1 make 1 2 a b n 300 pair v e pair v b v a": "(321,(20,1))",
	} {
		p := toldProg(text)
		c := asPlainLower(t, p)
		end, w := endsAsItsProg(t, p, c)
		if end != ends(want) {
			t.Errorf("%s: %v, not %s", text, end, want)
		}
		if before := impl.RunProg(p, impl.MaxFuel); before != end {
			t.Errorf("%s: %v, not %v", text, end, before)
		}
		ranCodeTo(t, text, c, ends(want), w.steps)
	}
}

// Where a raise goes on, in code made by hand.
func TestRunCodeRaises(t *testing.T) {
	ranCodes(t, []codeCase{
		// without an OpTry, within one, behind OpEnd
		{"main 1: num 0 5; raise 0; ret 0", "raise 5", 2}, {"main 3: try 0 4; num 1 5; raise 1; ret 2; ret 0", "5", 4}, {"main 2: try 0 5; end; num 1 4; raise 1; ret 1; ret 0", "raise 4", 4}, {"main 2: try 0 3; num 1 4; ret 1; ret 0", "4", 3},
		// the register of the number is D of that OpTry, and no other
		{"main 5: try 3 7; num 4 9; raise 4; ret 0; ret 0; ret 0; ret 0; pair 0 3 4; ret 0", "(9,9)", 5}, {"main 2: num 0 3; try 0 4; num 1 8; raise 1; ret 0", "8", 5}, {"main 2: try 1 3; num 0 8; raise 0; pair 1 1 0; ret 1", "(8,8)", 5}, {"main 1: try 0 3; num 0 8; raise 0; ret 0", "8", 4},
		// D is not written where nothing is raised
		{"main 2: num 0 3; try 0 4; end; ret 0; ret 1", "3", 4}, {"main 3: num 0 3; try 0 3; ret 0; ret 1", "3", 3},
		// what is done is not what is tried: a raise there goes further
		{"main 3: try 0 3; num 1 4; raise 1; num 2 9; raise 2; ret 2", "raise 9", 5}, {"main 3: try 0 7; try 1 4; num 2 4; raise 2; add 1 1 1; raise 1; ret 1; ret 0", "8", 7}, {"main 2: try 0 2; raise 1; raise 0; ret 0", "raise 0", 3},
		// to itself, to the OpTry again, backwards
		{"main 2: num 1 6; try 0 2; raise 1; ret 0", "raise 6", 4}, {"main 3: jump 2; ret 0; try 0 1; num 1 3; raise 1; ret 2", "3", 5}, {"main 2: try 0 0; raise 1; ret 0", "fuel", 20000},
		// the last of several
		{"main 4: try 0 6; try 1 7; try 2 8; num 3 5; raise 3; ret 3; ret 0; ret 1; pair 3 2 1; ret 3", "(5,0)", 7}, {"main 3: try 0 6; try 1 7; end; num 2 5; raise 2; ret 2; ret 0; ret 1", "5", 6}, {"main 3: try 0 7; try 1 8; end; end; num 2 5; raise 2; ret 2; ret 0; ret 1", "raise 5", 6},
		{"main 4: try 0 9; try 1 5; num 2 5; raise 2; ret 3; num 3 7; raise 3; ret 3; ret 3; pair 3 0 1; ret 3", "(7,5)", 8},
		// a raise leaves the outer ones as they are: the inner one is over, OpEnd then is of the outer one
		{"main 3: try 0 8; try 1 4; raise 2; ret 2; end; num 2 3; raise 2; ret 2; ret 0", "raise 3", 6},
	})
}

func TestRunCodeJumpsAboutTries(t *testing.T) {
	ranCodes(t, []codeCase{
		// a jump leaves what is tried without OpEnd: it still is tried
		{"main 3: try 0 5; jump 2; num 1 7; raise 1; ret 1; move 2 0; ret 2", "7", 6}, {"main 4: try 0 6; bool 1 0; ifnot 1 4; ret 1; num 2 8; raise 2; pair 3 0 0; ret 3", "(8,8)", 7}, {"main 4: try 0 6; nil 1; ifnil 1 4; ret 1; num 2 8; raise 2; pair 3 0 0; ret 3", "(8,8)", 7},
		// and in what is done, where another one is begun and left
		{"main 4: try 0 3; try 1 5; jump 6; pair 3 0 1; ret 3; ret 1; num 2 4; raise 2; ret 2", "4", 6}, {"main 4: try 0 8; try 1 4; raise 2; ret 2; num 2 3; raise 2; ret 2; ret 2; pair 3 0 1; ret 3", "(3,0)", 7},
		// a jump goes into what is tried: nothing is tried there, OpEnd is of nothing
		{"main 2: jump 2; try 0 5; num 1 7; raise 1; end; ret 0", "raise 7", 3}, {"main 2: jump 2; try 0 5; num 1 7; end; ret 1; ret 0", "7", 4}, {"main 2: jump 3; try 0 6; num 1 7; end; num 1 8; raise 1; ret 0", "raise 8", 4},
		// it goes into another one: the one that was begun is meant, and over by that OpEnd
		{"main 3: try 0 7; jump 3; try 1 8; num 2 6; raise 2; end; ret 2; pair 2 0 1; ret 2", "(6,0)", 6}, {"main 3: try 0 7; jump 3; try 1 8; end; num 2 6; raise 2; ret 2; ret 0; ret 1", "raise 6", 5},
		// an OpTry that is met twice: it is begun twice
		{"main 5: num 2 2; num 3 1; try 0 7; add 1 1 3; less 4 1 2; ifnot 4 9; jump 2; add 1 1 0; jump 9; raise 1; ret 1", "raise 8", 18}, {"main 5: num 2 2; num 3 1; try 0 8; add 1 1 3; less 4 1 2; ifnot 4 7; jump 2; end; raise 1; ret 1", "raise 2", 14},
		{"main 4: num 3 3; try 0 5; add 1 1 3; less 2 1 3; ifnot 2 6; ret 1; raise 1; ret 0", "3", 7},
		// OpEnd without an OpTry, and more of them than of OpTry
		{"main 1: end; ret 0", "0", 2}, {"main 1: end; end; num 0 3; ret 0", "3", 4}, {"main 2: end; try 0 4; num 1 5; raise 1; ret 0", "5", 5}, {"main 2: try 0 6; end; end; end; num 1 5; raise 1; ret 0", "raise 5", 6}, {"main 2: try 0 6; end; end; try 0 6; num 1 5; raise 1; ret 0", "5", 7},
	})
}

func TestRunCodeRaisesInCalls(t *testing.T) {
	ranCodes(t, []codeCase{
		{"fun 1 1 1: raise 0; ret 0 | main 3: make 0 1; num 1 5; call 2 0 1 1; ret 2", "raise 5", 4}, {"fun 1 1 1: raise 0; ret 0 | main 4: make 0 1; num 1 5; try 2 5; call 3 0 1 1; ret 3; pair 3 2 3; ret 3", "(5,0)", 7},
		// D of the OpCall is not written, nor any register by what was called
		{"fun 1 1 3: num 1 8; num 2 9; raise 0; ret 1 | main 4: make 0 1; num 1 5; num 3 2; try 2 6; call 3 0 1 1; ret 3; pair 3 2 3; ret 3", "(5,2)", 10},
		// several calls deep
		{"fun 1 1 1: raise 0; ret 0 | fun 2 2 3: call 2 0 1 1; ret 2 | fun 3 3 4: call 3 0 2 2; ret 3 | main 6: make 0 1; make 1 2 0; make 2 3 1 0; num 3 5; try 4 7; call 5 2 3 3; ret 5; ret 4", "5", 10},
		// one of those between tries: there it goes on, and what it answers is where it was called
		{"fun 1 1 1: raise 0; ret 0 | fun 2 2 5: try 2 3; call 3 0 1 1; ret 3; pair 4 2 1; ret 4 | main 5: make 0 1; make 1 2 0; num 2 5; try 3 6; call 4 1 2 2; ret 4; ret 3", "(5,5)", 11},
		// what was tried in a Piece is over where that ends, by OpRet and by a raise
		{"fun 1 1 2: try 1 2; ret 0; ret 1 | main 3: make 0 1; num 1 5; call 2 0 1 1; raise 2; ret 2", "raise 5", 6}, {"fun 1 1 2: try 1 2; ret 0; ret 1 | main 4: try 3 5; make 0 1; num 1 5; call 2 0 1 1; raise 2; pair 3 3 2; ret 3", "(5,5)", 9}, {"fun 1 1 2: try 1 2; ret 0; ret 1 | main 4: try 3 7; make 0 1; num 1 5; call 2 0 1 1; end; raise 2; ret 2; ret 3", "raise 5", 8},
		{"fun 1 1 2: try 1 3; end; raise 0; ret 1 | main 4: try 3 5; make 0 1; num 1 5; call 2 0 1 1; raise 2; pair 3 3 2; ret 3", "(5,0)", 9},
		// an OpEnd in a Piece is not of what was tried where it was called
		{"fun 1 1 1: end; end; raise 0; ret 0 | main 4: try 3 5; make 0 1; num 1 5; call 2 0 1 1; ret 2; ret 3", "5", 8}, {"fun 1 1 1: end; ret 0 | main 4: try 3 6; make 0 1; num 1 5; call 2 0 1 1; raise 2; ret 2; pair 3 3 3; ret 3", "(5,5)", 9},
		// the same one called within itself: each time with tries of its own
		{"fun 1 2 6: num 2 1; less 3 1 2; ifnot 3 5; raise 1; ret 1; try 4 9; sub 5 1 2; call 5 0 5 1; ret 5; raise 4; ret 4 | main 4: make 0 1 1; num 1 3; ret 1", "3", 3},
		{"fun 1 1 7: num 1 1; less 2 0 1; ifnot 2 5; num 3 7; raise 3; try 4 10; sub 5 0 1; make 6 1; call 3 6 5 1; ret 3; add 4 4 1; raise 4; ret 4 | main 3: make 0 1; num 1 3; call 2 0 1 1; ret 2", "raise 10", 35},
		// a raise that what is called for nothing makes: of no case, of no record, at the call
		{"fun 1 1 1: ret 0 | main 4: make 0 1; try 1 4; call 2 0 0; ret 2; pair 3 1 2; ret 3", "(-3,0)", 5}, {"fun 1 1 1: ret 0 | main 4: try 1 3; call 2 0 0 1; ret 2; pair 3 1 2; ret 3", "(-2,0)", 4},
	})
}

// Each raise that an instruction makes of itself, without an OpTry and within one: D is not written.
func TestRunCodeRaisesOfInstructions(t *testing.T) {
	for _, c := range []struct {
		setup, shown string
		// the number that is raised by each instruction, or how it ends
		raised map[string]int
		ends   map[string]string
	}{
		{"num 0 1000000; num 1 1", "1000000", map[string]int{"add 0 0 1": -1, "add 0 1 0": -1, "mul 0 0 0": -1, "add 0 0 0": -1, "raise 0": 1000000, "raise 1": 1, "raise 9": 0}, map[string]string{"sub 0 0 1": "999999", "sub 0 1 0": "-999999", "less 0 0 1": "u", "less 0 1 0": "t", "same 0 0 0": "t", "add 0 0 9": "1000000", "mul 0 0 1": "1000000"}},
		{"num 0 1000; num 1 1001", "1000", map[string]int{"mul 0 0 1": -1, "mul 0 1 1": -1}, map[string]string{"mul 0 0 0": "1000000", "add 0 0 1": "2001"}},
		{"num 0 -1000000; num 1 1", "-1000000", map[string]int{"sub 0 0 1": -1, "add 0 0 0": -1, "mul 0 0 0": -1, "raise 0": -1000000}, map[string]string{"add 0 0 1": "-999999", "mul 0 0 1": "-1000000", "sub 0 1 0": "raise -1", "less 0 0 1": "t", "sub 0 0 0": "0"}},
		{"bool 0 1; nil 1", "t", map[string]int{"add 0 0 0": -2, "add 0 0 1": -2, "add 0 9 1": -2, "add 0 1 9": -2, "less 0 0 9": -2, "same 0 0 0": -2, "same 0 1 1": -2, "first 0 0": -2, "second 0 0": -2, "first 0 1": -2, "second 0 1": -2, "ifnot 1 @": -2, "ifnil 0 @": -2, "raise 0": -2, "raise 1": -2, "call 0 0 0": -2, "call 0 1 0 3 4 5": -2, "ifnot 9 @": -2, "ifnil 9 @": -2, "first 0 9": -2, "second 0 9": -2, "call 0 9 9 4": -2}, map[string]string{"ifnot 0 @": "t", "ifnil 1 @": "t"}},
		{"make 0 4; num 1 6", "fn", map[string]int{"call 0 0 1": -3, "call 0 0 1 3": -3, "call 0 0 1 5": -3, "call 0 0 1 3 5": -3, "first 0 0": -2, "second 0 0": -2, "add 0 0 1": -2, "add 0 1 0": -2, "raise 0": -2, "ifnot 0 @": -2, "ifnil 0 @": -2}, map[string]string{"call 0 0 1 3 4": "6", "call 0 0 1 4": "6", "call 0 0 1 3 4 5": "6"}},
	} {
		funs := "fun 3 1 2: ret 1 | fun 4 1 1: ret 0 | fun 5 1 2: ret 1 | "
		alone := func(ins string) impl.Code {
			return toldCode(funs + "main 12: " + c.setup + "; " + strings.ReplaceAll(ins, "@", "3") + "; ret 0")
		}
		for ins, number := range c.raised {
			what := c.setup + "; " + ins
			codeIs(t, what, alone(ins), "")
			ranCodeTo(t, what, alone(ins), isRaise(number), 3)
			tried := toldCode(funs + "main 12: " + c.setup + "; try 10 5; " + strings.ReplaceAll(ins, "@", "4") + "; ret 0; pair 10 10 0; ret 10")
			codeIs(t, what, tried, "")
			ranCodeTo(t, what, tried, isValue("("+strconv.Itoa(number)+","+c.shown+")"), 6)
		}
		for ins, told := range c.ends {
			if end, _ := asPlainRunCode(t, alone(ins), 50); end != ends(told) {
				t.Error(c.setup, ins, end)
			}
		}
	}
}

// codeKind is a kind of value: how it comes into a register, and its text.
type codeKind struct{ name, setup, text string }

func codeKinds() []codeKind {
	return []codeKind{
		{"number", "num % 5", "5"}, {"below", "num % -7", "-7"}, {"true", "bool % 1", "t"}, {"false", "bool % 0", "u"}, {"pair", "num 8 1; bool 9 1; pair % 8 9", "(1,t)"}, {"list", "num 8 4; nil 9; cons % 8 9", "[4]"}, {"longer", "num 8 4; nil 9; cons 9 8 9; num 8 3; cons % 8 9", "[3,4]"}, {"none", "nil %", "[]"},
		{"record", "make % 2", "fn"}, {"holder", "num 8 6; make % 3 8 8", "fn"}, {"loose", "num 8 4; bool 9 1; cons % 8 9", "[4]"}, {"unwritten", "move 8 8", "0"}, {"moved", "num 8 6; move % 8", "6"},
	}
}

// Each Op with each kind of value in X and in Y.
func TestRunCodeOfEachOpAndKind(t *testing.T) {
	numbers := map[string]int{"number": 5, "below": -7, "unwritten": 0, "moved": 6}
	wrong := "raise -2"
	told := func(op string, x, y codeKind) string {
		a, isA := numbers[x.name]
		b, isB := numbers[y.name]
		list := strings.HasPrefix(x.text, "[")
		switch op {
		case "move", "ret":
			return x.text
		case "pair":
			return "(" + x.text + "," + y.text + ")"
		case "cons":
			if y.text == "[]" || !strings.HasPrefix(y.text, "[") {
				return "[" + x.text + "]"
			}
			return "[" + x.text + "," + y.text[1:]
		case "add", "sub", "mul", "less", "same":
			if !isA || !isB {
				return wrong
			}
			return map[string]string{"add": fmt.Sprint(a + b), "sub": fmt.Sprint(a - b), "mul": fmt.Sprint(a * b), "less": map[bool]string{true: "t", false: "u"}[a < b], "same": map[bool]string{true: "t", false: "u"}[a == b]}[op]
		case "first":
			return map[string]string{"pair": "1", "list": "4", "longer": "3", "loose": "4"}[x.name]
		case "second":
			return map[string]string{"pair": "t", "list": "[]", "longer": "[4]", "loose": "t"}[x.name]
		case "ifnot":
			return map[string]string{"true": "100", "false": "200"}[x.name]
		case "ifnil":
			if list && x.name != "none" {
				return "100"
			}
			return map[string]string{"none": "200"}[x.name]
		case "raise":
			if isA {
				return "raise " + fmt.Sprint(a)
			}
		case "call":
			return map[string]string{"record": "((0," + y.text + ")," + x.text + ")", "holder": "((6," + y.text + ")," + x.text + ")"}[x.name]
		}
		return ""
	}
	for _, op := range []string{"move 2 0", "ret 0", "pair 2 0 1", "cons 2 0 1", "add 2 0 1", "sub 2 0 1", "mul 2 0 1", "less 2 0 1", "same 2 0 1", "first 2 0", "second 2 0", "ifnot 0 @", "ifnil 0 @", "raise 0", "call 2 0 1 2 3"} {
		for _, x := range codeKinds() {
			for _, y := range codeKinds() {
				lines := strings.Split(strings.ReplaceAll(x.setup, "%", "0")+"; "+strings.ReplaceAll(y.setup, "%", "1"), ";")
				word, _, _ := strings.Cut(op, " ")
				text := strings.Join(lines, ";") + "; " + strings.ReplaceAll(op, "@", strconv.Itoa(len(lines)+3)) + "; "
				switch word {
				case "ifnot", "ifnil":
					text += "num 2 100; ret 2; num 2 200; ret 2"
				case "call":
					text += "pair 2 2 0; ret 2"
				default:
					text += "ret 2"
				}
				c := toldCode("fun 2 1 4: pair 3 2 0; ret 3 | fun 3 3 5: pair 4 1 2; ret 4 | main 10: " + text)
				codeIs(t, text, c, "")
				want := told(word, x, y)
				if want == "" {
					want = wrong
				}
				if got := impl.RunCode(c, 100); got != ends(want) {
					t.Errorf("%s of %s and %s: %v, not %s", op, x.name, y.name, got, want)
				}
				asPlainRunCode(t, c, 100)
				// within what is tried a raise goes on
				if number, raised := strings.CutPrefix(want, "raise "); raised {
					more := evenCode(c)
					at := len(lines)
					more.Main.Ins = append(slices.Insert(more.Main.Ins, at, toldIns("try 7 "+strconv.Itoa(len(more.Main.Ins)+1))), toldIns("ret 7"))
					if got := impl.RunCode(more, 100); got != isValue(number) {
						t.Errorf("tried %s of %s and %s: %v, not %s", op, x.name, y.name, got, number)
					}
				}
			}
		}
	}
}

func TestRunCodeOfEachOp(t *testing.T) {
	ranCodes(t, []codeCase{
		{"main 1: num 0 5; ret 0", "5", 2}, {"main 1: num 0 -1000000; ret 0", "-1000000", 2}, {"main 1: bool 0 0; ret 0", "u", 2}, {"main 1: ret 0", "0", 1}, {"main 400: ret 399", "0", 1}, {"main 400: num 399 4; move 0 399; ret 0", "4", 3},
		// a register is what was written last; what is written may be what is read
		{"main 2: num 0 5; num 0 6; ret 0", "6", 3}, {"main 1: num 0 5; add 0 0 0; mul 0 0 0; ret 0", "100", 4}, {"main 1: nil 0; cons 0 0 0; cons 0 0 0; pair 0 0 0; ret 0", "([[[]],[]],[[[]],[]])", 5}, {"main 2: num 0 5; pair 1 0 0; num 0 6; pair 0 1 0; ret 0", "((5,5),6)", 5},
		{"main 2: nil 1; cons 1 0 1; first 1 1; ret 1", "0", 4}, {"main 3: num 0 1; nil 1; cons 1 0 1; num 0 2; cons 1 0 1; second 2 1; pair 2 1 2; ret 2", "([2,1],[1])", 8},
		// places: on, back, to the last one, over others
		{"main 2: jump 2; num 0 5; ret 0", "0", 2}, {"main 2: jump 3; num 0 5; ret 0; jump 1", "5", 4}, {"main 3: bool 0 1; ifnot 0 4; num 1 5; ret 1; num 1 6; ret 1", "5", 4}, {"main 3: bool 0 0; ifnot 0 4; num 1 5; ret 1; num 1 6; ret 1", "6", 4}, {"main 3: nil 0; ifnil 0 4; num 1 5; ret 1; num 1 6; ret 1", "6", 4}, {"main 3: nil 0; cons 0 0 0; ifnil 0 5; num 1 5; ret 1; num 1 6; ret 1", "5", 5},
		{"main 4: num 0 3; num 1 1; less 2 0 1; ifnot 2 5; ret 3; add 3 3 0; sub 0 0 1; jump 2", "6", 20},
		// calls: registers of its own, what it captures, behind these the argument
		{"fun 2 1 1: ret 0 | main 3: make 0 2; num 1 5; call 2 0 1 2; ret 2", "5", 5}, {"fun 2 3 5: pair 3 0 1; pair 4 3 2; ret 4 | main 4: num 0 1; num 1 2; make 2 2 1 0; num 3 9; call 3 2 3 2; ret 3", "((2,1),9)", 9}, {"fun 2 1 3: pair 2 1 2; ret 2 | main 3: num 1 7; num 2 8; make 0 2; call 0 0 1 2; ret 0", "(0,0)", 7},
		{"fun 2 2 2: num 0 8; num 1 9; ret 0 | main 4: num 0 1; make 1 2 0; call 2 1 0 2; call 3 1 0 2; pair 2 2 3; pair 2 2 0; ret 2", "((8,8),1)", 13},
		// what a record captures is what the register had where it was made
		{"fun 2 2 2: ret 0 | main 3: num 0 1; make 1 2 0; num 0 5; call 2 1 0 2; ret 2", "1", 6}, {"fun 2 2 3: pair 2 0 1; ret 2 | main 3: num 0 1; make 1 2 0; make 0 2 1; call 2 0 1 2; ret 2", "(fn,fn)", 7},
		// a call that writes the register of its record, and of its argument
		{"fun 2 1 1: ret 0 | main 2: make 0 2; num 1 5; call 0 0 1 2; ret 0", "5", 5}, {"fun 2 1 1: ret 0 | main 2: make 0 2; num 1 5; call 1 0 1 2; pair 0 0 1; ret 0", "(fn,5)", 6}, {"fun 2 1 1: ret 0 | main 1: make 0 2; call 0 0 0 2; ret 0", "fn", 4},
		// records as text, in pairs and lists
		{"fun 2 1 1: ret 0 | main 3: make 0 2; nil 1; cons 1 0 1; cons 1 0 1; pair 2 0 1; ret 2", "(fn,[fn,fn])", 6}, {"fun 2 2 2: ret 0 | main 3: make 0 2 1; pair 1 0 0; nil 2; cons 2 1 2; ret 2", "[(fn,fn)]", 5},
		// several functions, the first of which is not the one that is called
		{"fun 0 1 2: num 1 3; ret 1 | fun 7 1 2: num 1 4; ret 1 | fun 149 1 2: num 1 5; ret 1 | main 4: make 0 0; make 1 7; make 2 149; call 0 0 3 0 7 149; call 1 1 3 0 7 149; call 2 2 3 149; pair 0 0 1; pair 0 0 2; ret 0", "((3,4),5)", 15},
		// what calls goes on behind the call
		{"fun 2 1 2: num 1 3; ret 1 | fun 3 2 4: call 2 0 1 2; call 3 0 1 2; add 2 2 3; ret 2 | main 3: make 0 2; make 1 3 0; call 2 1 0 3; call 0 1 0 3; add 0 0 2; ret 0", "12", 22},
	})
}

// A list is put ahead of anything: nothing is asked, and its text ends ahead of what is no list.
func TestRunCodeOfLooseLists(t *testing.T) {
	ranCodes(t, []codeCase{
		{"main 3: num 0 1; num 1 2; cons 2 0 1; ret 2", "[1]", 4}, {"main 3: num 0 1; bool 1 0; cons 2 0 1; cons 2 0 2; ret 2", "[1,1]", 5}, {"main 3: num 0 1; pair 1 0 0; cons 2 0 1; cons 1 2 2; ret 1", "[[1],1]", 5}, {"main 3: num 0 1; num 1 2; cons 2 0 1; second 2 2; ret 2", "2", 5}, {"main 3: num 0 1; num 1 2; cons 2 0 1; first 2 2; ret 2", "1", 5},
		{"main 3: num 0 1; num 1 2; cons 2 0 1; ifnil 2 0; second 2 2; ifnil 2 0; ret 2", "raise -2", 6}, {"main 3: cons 0 1 2; pair 0 0 0; ret 0", "([0],[0])", 3}, {"main 3: try 0 4; cons 1 2 2; end; ret 1; ret 0", "[0]", 4},
	})
}

func TestRunCodeFuel(t *testing.T) {
	endless := []impl.Code{toldCode("main 0: jump 0"), toldCode("main 1: num 0 1; add 0 0 1; jump 0"), toldCode("main 1: try 0 0; jump 0"), toldCode("main 2: try 0 0; raise 1; jump 0"), toldCode("main 0: end; jump 0"), toldCode("fun 2 1 1: jump 0 | main 2: make 0 2; call 1 0 1 2; ret 1")}
	endless[1].Main.Regs = 2
	for _, c := range endless {
		codeIs(t, "endless", c, "")
		for _, fuel := range []int{0, 1, 2, 3, 500, 19999, 20000} {
			if end := impl.RunCode(c, fuel); end != isFuel {
				t.Error(codeText(c), fuel, end)
			}
			asPlainRunCode(t, c, fuel)
		}
	}
	for _, fuel := range []int{-1, 20001, math.MinInt, math.MaxInt} {
		for _, c := range append(endless, toldCode("main 1: ret 0"), fullerCode(), impl.Code{}) {
			if end := impl.RunCode(c, fuel); end != isNothing {
				t.Error(fuel, end)
			}
		}
	}
	// just enough of the greatest fuel, and one too few: a loop of 4 instructions, with what is ahead of it
	enough, tooFew := 0, 0
	for wait := range 6 {
		text := "main 4: num 1 1; num 0 4998; "
		text += strings.Repeat("move 3 3; ", wait)
		at := strconv.Itoa(2 + wait)
		text += "less 2 0 1; ifnot 2 " + strconv.Itoa(5+wait) + "; ret 0; sub 0 0 1; jump " + at
		c := toldCode(text)
		end, w := asPlainRunCode(t, c, impl.MaxFuel)
		asPlainRunCode(t, c, impl.MaxFuel-1)
		if end == isValue("0") && w.steps == impl.MaxFuel {
			enough++
		}
		if end == isFuel {
			tooFew++
		}
	}
	if enough != 1 || tooFew < 1 {
		t.Error("the test's own", enough, tooFew)
	}
	// out of fuel within what is tried, which is no raise
	c := toldCode("fun 2 1 3: try 1 4; call 2 0 0 2; ret 2; ret 2; ret 1 | main 3: try 1 4; make 0 2; call 2 0 0 2; ret 2; ret 1")
	for fuel := range 40 {
		if end, _ := asPlainRunCode(t, c, fuel); end != isFuel {
			t.Error(fuel, end)
		}
	}
	// each fuel of one that calls, tries and raises
	whole := toldCode("fun 2 1 3: try 1 3; raise 0; ret 2; add 2 1 1; raise 2; ret 0 | main 4: make 0 2; num 1 5; try 2 6; call 3 0 1 2; end; ret 3; pair 3 2 2; ret 3")
	end, w := asPlainRunCode(t, whole, impl.MaxFuel)
	if end != isValue("(10,10)") || w.steps != 10 {
		t.Error(end, w.steps)
	}
	for fuel := range 12 {
		asPlainRunCode(t, whole, fuel)
	}
}

// counted calls itself as often as Main says, one call within the other, then does what comes at last.
func countedCode(n int, last string) impl.Code {
	return toldCode("fun 2 1 5: num 1 1; less 2 0 1; ifnot 2 5; " + last + "; ret 0; sub 3 0 1; make 4 2; call 3 4 3 2; ret 3 | main 3: num 0 " + strconv.Itoa(n) + "; make 1 2; call 2 1 0 2; ret 2")
}

// 1000 Pieces may be begun and not ended, Main with them; not one more.
func TestRunCodeDeep(t *testing.T) {
	for n, told := range map[int]string{0: "0", 1: "0", 500: "0", 997: "0", 998: "0", 999: "fuel", 1000: "fuel", 1500: "fuel", 100000: "fuel"} {
		c := countedCode(n, "move 3 3")
		end, w := asPlainRunCode(t, c, impl.MaxFuel)
		if end != ends(told) || told == "0" && w.deep != n+2 || told == "fuel" && w.deep != 1001 {
			t.Error(n, end, w.deep)
		}
	}
	// the fuel was there: it is over with the call that is one too many
	c := countedCode(999, "move 3 3")
	if end, w := asPlainRunCode(t, c, impl.MaxFuel); end != isFuel || w.steps > 7500 {
		t.Error(end, w.steps)
	}
	// it is no raise: nothing catches it
	tried := toldCode("fun 2 1 2: try 1 4; make 0 2; call 0 0 0 2; ret 0; ret 1 | main 3: try 0 4; make 1 2; call 2 1 0 2; ret 2; ret 0")
	if end, w := asPlainRunCode(t, tried, impl.MaxFuel); end != isFuel || w.deep != 1001 || w.steps != 3+3*999 {
		t.Error(end, w.deep, w.steps)
	}
	// a raise ends as many
	for n, told := range map[int]string{998: "raise 7", 999: "fuel"} {
		c := countedCode(n, "num 3 7; raise 3")
		c.Funs[0].Ins[2].To = 6
		if end, _ := asPlainRunCode(t, c, impl.MaxFuel); end != ends(told) {
			t.Error(n, end)
		}
	}
	// at the thousandth a call may still raise: of no record, of no case
	for last, number := range map[string]int{"call 3 0 0 2": -2, "call 3 4 0": -3} {
		c := countedCode(998, last)
		c.Funs[0].Ins = append([]impl.Ins{toldIns("make 4 2")}, plainMoved(c.Funs[0].Ins, 1)...)
		if end, w := asPlainRunCode(t, c, impl.MaxFuel); end != isRaise(number) || w.deep != 1000 {
			t.Error(last, end, w.deep)
		}
	}
	// those that ended do not count: by OpRet, and by a raise
	for _, text := range []string{
		"fun 2 1 1: ret 0 | main 5: num 0 3000; num 1 1; make 2 2; less 3 0 1; ifnot 3 6; ret 0; call 4 2 0 2; sub 0 0 1; jump 3",
		"fun 2 1 1: raise 0; ret 0 | main 6: num 0 2000; num 1 1; make 2 2; less 3 0 1; ifnot 3 6; ret 0; try 4 9; call 5 2 0 2; ret 5; sub 0 0 1; jump 3",
		// three deep each time, which end by a raise at the lowest
		"fun 2 1 1: raise 0; ret 0 | fun 3 2 3: call 2 0 1 2; ret 2 | fun 4 2 3: call 2 0 1 3; ret 2 | main 7: num 0 1200; num 1 1; make 2 2; make 3 3 2; make 2 4 3; less 4 0 1; ifnot 4 8; ret 0; try 4 11; call 5 2 0 4; ret 5; sub 0 0 1; jump 5",
	} {
		c := toldCode(text)
		codeIs(t, text, c, "")
		if end, w := asPlainRunCode(t, c, impl.MaxFuel); end != isValue("0") || w.deep > 4 {
			t.Error(text, end, w.deep)
		}
	}
	// a thousand that a raise ends, and then a thousand again
	again := countedCode(998, "num 3 7; raise 3")
	again.Funs[0].Ins[2].To = 6
	again.Main = toldCode("main 8: num 0 998; make 1 2; bool 3 1; try 2 6; call 4 1 0 2; ret 4; ifnot 3 9; bool 3 0; jump 3; pair 5 2 3; ret 5").Main
	if end, w := asPlainRunCode(t, again, impl.MaxFuel); end != isValue("(7,u)") || w.deep != 1000 {
		t.Error(end, w.deep)
	}
	// so it is with terms: Run goes as deep as its fuel does
	loop := parsedTerm(t, "fix f 0 f i i fn x i if op < v x 0 n 1 n 7 op + n 0 app v f 0 op - v x 0 n 1 app v f 0 n 1200")
	p := asPlainDefun(t, loop)
	if end, _ := endsAsItsProg(t, p, asPlainLower(t, p)); end != isFuel || impl.Run(loop, impl.MaxFuel) != isValue("7") {
		t.Error(end)
	}
}

// A text of any length is told whole, but for what no memory holds; so is it by RunProg.
func TestRunCodeLongTexts(t *testing.T) {
	text := "fn"
	for range 18 {
		text = "(" + text + "," + text + ")"
	}
	c := toldCode("fun 0 1 1: ret 0 | main 1: make 0 0; " + strings.Repeat("pair 0 0 0; ", 18) + "ret 0")
	if got := impl.RunCode(c, 20); got != isValue(text) || impl.RunCode(c, 19) != isFuel {
		t.Error(got.End, len(got.Text))
	}
	for _, ins := range []string{"pair 0 0 0", "cons 0 0 0"} {
		c = toldCode("main 1: " + strings.Repeat(ins+"; ", 500) + "ret 0")
		if got := impl.RunCode(c, 600); got != isFuel {
			t.Error(got.End, len(got.Text))
		}
		c = toldCode("main 2: num 1 5; " + strings.Repeat(ins+"; ", 500) + "ret 1")
		if got := impl.RunCode(c, 600); got != isValue("5") {
			t.Error(got.End, len(got.Text))
		}
	}
	// long lists
	c = toldCode("main 4: nil 0; num 1 4000; num 2 1; less 3 1 2; ifnot 3 6; ret 0; cons 0 1 0; sub 1 1 2; jump 3")
	var all []string
	for n := range 3998 {
		all = append(all, strconv.Itoa(n+1))
	}
	c.Main.Ins[1].N = 3998
	if got := impl.RunCode(c, impl.MaxFuel); got != isValue("["+strings.Join(all, ",")+"]") {
		t.Error(got.End, len(got.Text))
	}
}

// Codes by chance, whatever they come to, with each fuel that matters.
func TestRunCodeByChance(t *testing.T) {
	t.Parallel()
	values, raises, fuels, noCase, wrong, loose, caught, deep := 0, 0, 0, 0, 0, 0, 0, 0
	for _, c := range anyCodes(6000) {
		codeIs(t, "by chance", c, "")
		end, w := asPlainRunCode(t, c, 400)
		switch end.End {
		case impl.EndValue:
			values++
		case impl.EndRaise:
			raises++
		default:
			fuels++
		}
		for count, met := range map[*int]int{&noCase: w.noCase, &wrong: w.wrong, &loose: w.loose, &caught: w.caught, &deep: w.deep - 1} {
			if met > 0 {
				*count++
			}
		}
		for fuel := range min(w.steps+2, 20) {
			asPlainRunCode(t, c, fuel)
		}
		if end != isFuel {
			ranCodeTo(t, codeText(c), c, end, w.steps)
		}
	}
	if values < 1000 || raises < 1000 || fuels < 300 || noCase < 20 || wrong < 1000 || loose < 300 || caught < 300 || deep < 200 {
		t.Error("too few", values, raises, fuels, noCase, wrong, loose, caught, deep)
	}
}

// What is not right runs not at all, whatever its first instructions are.
func TestRunCodeOfWhatIsNotRight(t *testing.T) {
	for text, faults := range map[string]string{
		"main 1: ret 0; num 0 1": "last", "main 1: ret 0; ret 1": "register X", "main 1: num 0 5; ret 0; num 0 1000001; ret 0": "number", "main 0: ret 0": "register X", "fun 2 0 1: ret 0 | main 1: ret 0": "in", "fun 2 1 0: ret 0 | main 1: ret 0": "register X, regs", "fun 2 1 1: raise 0 | main 1: ret 0": "last", "fun 150 1 1: ret 0 | main 1: ret 0": "lam",
		"main 1: ret 0; jump 2": "to", "main 1: ret 0; make 0 3; ret 0": "no fun", "main 1: ret 0; call 0 0 0 3; ret 0": "no fun in L",
	} {
		codeIs(t, text, toldCode(text), faults)
	}
	codeIs(t, "zero", impl.Code{}, "main lam, no ins")
}

// The limits of a Piece, each met and passed.
func TestCodeOkOfPieces(t *testing.T) {
	ret := toldList("ret 0")
	main := impl.Piece{Lam: -1, Regs: 1, Ins: ret}
	fun := func(lam int) impl.Piece { return impl.Piece{Lam: lam, In: 1, Regs: 1, Ins: ret} }
	with := func(funs ...impl.Piece) impl.Code { return impl.Code{Funs: funs, Main: main} }
	codeIs(t, "Main alone", with(), "")
	// Lams
	for lam, faults := range map[int]string{-1: "lam", 0: "", 1: "", 148: "", 149: "", 150: "lam", 151: "lam", math.MinInt: "lam", math.MaxInt: "lam"} {
		codeIs(t, "Lam "+strconv.Itoa(lam), with(fun(lam)), faults)
	}
	codeIs(t, "ascending", with(fun(0), fun(1), fun(149)), "")
	codeIs(t, "twice", with(fun(4), fun(4)), "lam order")
	codeIs(t, "not ascending", with(fun(5), fun(4)), "lam order")
	codeIs(t, "not ascending at last", with(fun(1), fun(5), fun(4)), "lam order")
	codeIs(t, "the first one again", with(fun(1), fun(2), fun(1)), "lam order")
	// how many: Lams leave no more than 150
	var many []impl.Piece
	for lam := range 201 {
		many = append(many, fun(lam))
	}
	codeIs(t, "150 Funs", with(many[:150]...), "")
	codeIs(t, "151 Funs", with(many[:151]...), "lam")
	codeIs(t, "200 Funs", with(many[:200]...), "lam")
	codeIs(t, "201 Funs", with(many[:201]...), "lam, many funs")
	codeIs(t, "200 of one Lam", with(slices.Repeat([]impl.Piece{fun(3)}, 200)...), "lam order")
	codeIs(t, "201 of one Lam", with(slices.Repeat([]impl.Piece{fun(3)}, 201)...), "lam order, many funs")
	codeIs(t, "very many", with(make([]impl.Piece, 100000)...), "in, lam order, many funs, no ins")
	// Main's Lam and In
	for lam, faults := range map[int]string{-2: "main lam", -1: "", 0: "main lam", 3: "main lam", 149: "main lam", math.MaxInt: "main lam"} {
		c := with(fun(3))
		c.Main.Lam = lam
		codeIs(t, "Main's Lam "+strconv.Itoa(lam), c, faults)
	}
	for in, faults := range map[int]string{-1: "main in", 0: "", 1: "main in", 2: "main in, regs", math.MinInt: "main in"} {
		c := with()
		c.Main.In = in
		codeIs(t, "Main's In "+strconv.Itoa(in), c, faults)
	}
	// In and Regs of a Fun
	for in, faults := range map[int]string{-1: "in", 0: "in", 1: "", 2: "", 9: "", 10: "regs", 400: "regs", math.MaxInt: "regs", math.MinInt: "in"} {
		p := fun(3)
		p.In, p.Regs = in, 9
		codeIs(t, "In "+strconv.Itoa(in), with(p), faults)
	}
	for _, in := range []int{1, 2, 50, 399, 400} {
		for regs, faults := range map[int]string{in - 1: "regs", in: "", max(in, 399): "", 400: "", 401: "regs", math.MaxInt: "regs", -1: "regs"} {
			p := impl.Piece{Lam: 3, In: in, Regs: regs, Ins: toldList("jump 0")}
			codeIs(t, "In "+strconv.Itoa(in)+" Regs "+strconv.Itoa(regs), with(p), faults)
		}
	}
	codeIs(t, "In 401", with(impl.Piece{Lam: 3, In: 401, Regs: 401, Ins: ret}), "regs")
	for regs, faults := range map[int]string{-1: "regs", 0: "", 1: "", 400: "", 401: "regs", math.MinInt: "regs"} {
		c := with()
		c.Main.Regs, c.Main.Ins = regs, toldList("jump 0")
		codeIs(t, "Main's Regs "+strconv.Itoa(regs), c, faults)
	}
	// how many Ins
	for n, faults := range map[int]string{0: "no ins", 1: "", 2: "", 599: "", 600: "", 601: "many ins", 100000: "many ins"} {
		for _, ins := range []string{"ret 0", "jump 0"} {
			p := fun(3)
			p.Ins = slices.Repeat(toldList(ins), n)
			codeIs(t, strconv.Itoa(n)+" Ins of a Fun", with(p), faults)
			c := with()
			c.Main.Ins = p.Ins
			codeIs(t, strconv.Itoa(n)+" Ins of Main", c, faults)
		}
	}
	// each of many Pieces is asked
	for at := range 150 {
		pieces := slices.Clone(many[:150])
		pieces[at].Ins = toldList("ret 1")
		codeIs(t, "the Piece "+strconv.Itoa(at), with(pieces...), "register X")
	}
}

// rightIns is an instruction of each Op (and of each N of OpArith), right in a Piece with 5 registers and the Funs 2 (In 1) and 3 (In 3).
func rightIns() []string {
	return []string{"num 1 5", "bool 1 1", "nil 1", "move 1 2", "add 1 2 3", "sub 1 2 3", "mul 1 2 3", "less 1 2 3", "same 1 2 3", "pair 1 2 3", "cons 1 2 3", "make 1 2", "make 1 3 4 2", "first 1 2", "second 1 2", "ifnot 2 1", "ifnil 2 1", "jump 1", "call 1 2 3 2 3", "call 1 2 3 3", "call 1 2 3", "ret 2", "raise 2", "try 1 1", "end"}
}

func inCode(i impl.Ins) impl.Code {
	c := toldCode("fun 2 1 1: ret 0 | fun 3 3 3: ret 0 | main 5: ret 0; ret 0; ret 0; ret 0; ret 0; ret 0; ret 0")
	c.Main.Ins[3] = i
	return c
}

// Each field of each Op: at its limits, past them, and not 0 where it has none.
func TestCodeOkOfEachField(t *testing.T) {
	for _, text := range rightIns() {
		right := toldIns(text)
		codeIs(t, text, inCode(right), "")
		names := opFields[right.Op]
		for _, field := range "DXYNT" {
			below := 5
			fault := "register " + string(field)
			if field == 'T' {
				below, fault = 7, "to"
			}
			least, most := 0, below-1
			if field == 'N' {
				fault = "number"
				switch right.Op {
				case impl.OpNum:
					least, most = -1000000, 1000000
				case impl.OpBool:
					least, most = 0, 1
				case impl.OpArith:
					least, most = 1, 5
				case impl.OpMake:
					continue
				}
			}
			if !strings.ContainsRune(names, field) {
				least, most = 0, 0
				fault = "field " + string(field)
			}
			for _, n := range []int{math.MinInt, -1000001, -1000000, -1, 0, 1, 2, 4, 5, 6, 7, 399, 400, 599, 600, 1000000, 1000001, math.MaxInt} {
				i := right
				*fieldAt(&i, field) = n
				faults := fault
				if n >= least && n <= most {
					faults = ""
				}
				codeIs(t, fmt.Sprint(text, " with ", string(field), " ", n), inCode(i), faults)
			}
		}
		if !strings.Contains(names, "L") {
			for _, list := range [][]int{{0}, {2}, {2, 3}, {-1}} {
				i := right
				i.L = list
				codeIs(t, fmt.Sprint(text, " with L ", list), inCode(i), "field L")
			}
			i := right
			i.L = []int{}
			codeIs(t, text+" with an empty L", inCode(i), "")
		}
	}
	for _, op := range []int{0, 19, -1, 20, math.MinInt, math.MaxInt} {
		codeIs(t, fmt.Sprint("Op ", op), inCode(impl.Ins{Op: op}), "op")
	}
	codeIs(t, "zero", inCode(impl.Ins{}), "op")
}

// OpMake and OpCall: of which Funs, with which registers.
func TestCodeOkOfMakeAndCall(t *testing.T) {
	for text, faults := range map[string]string{
		"make 0 2": "", "make 0 3 0 0": "", "make 0 3 4 4": "", "make 4 3 0 4": "",
		"make 0 0": "no fun", "make 0 1": "no fun", "make 0 4": "no fun", "make 0 -1": "no fun", "make 0 149": "no fun", "make 0 150": "no fun",
		"make 0 2 0": "count", "make 0 2 0 0": "count", "make 0 3": "count", "make 0 3 1": "count", "make 0 3 1 2 3": "count",
		"make 0 3 -1 0": "register L", "make 0 3 0 -1": "register L", "make 0 3 5 0": "register L", "make 0 3 0 5": "register L", "make 0 3 0 400": "register L", "make 0 2 5": "count, register L",
		"call 0 0 0": "", "call 0 0 0 2": "", "call 0 0 0 3": "", "call 0 0 0 2 3": "", "call 0 0 0 3 2": "order of L", "call 0 0 0 2 2": "order of L", "call 0 0 0 3 3": "order of L", "call 0 0 0 2 3 3": "order of L", "call 0 0 0 2 3 2": "order of L",
		"call 0 0 0 0": "no fun in L", "call 0 0 0 4": "no fun in L", "call 0 0 0 -1": "no fun in L", "call 0 0 0 -1 2": "no fun in L", "call 0 0 0 2 4": "no fun in L", "call 0 0 0 1 2": "no fun in L", "call 0 0 0 149": "no fun in L",
	} {
		codeIs(t, text, inCode(toldIns(text)), faults)
		// in a Fun as in Main: there of itself and of the others
		c := toldCode("fun 2 1 5: ret 0; ret 0 | fun 3 3 3: ret 0 | main 1: ret 0")
		c.Funs[0].Ins[0] = toldIns(text)
		codeIs(t, text+" in a Fun", c, faults)
	}
	// without any Fun
	for text, faults := range map[string]string{"make 0 0": "no fun", "make 0 2": "no fun", "call 0 0 0": "", "call 0 0 0 0": "no fun in L", "call 0 0 0 -1": "no fun in L", "make 0 -1": "no fun"} {
		c := toldCode("main 1: " + text + "; ret 0")
		codeIs(t, text+" without any Fun", c, faults)
	}
	// as many L as a record can have, and all Lams there are
	i := impl.Ins{Op: impl.OpMake, N: 3, L: make([]int, 399)}
	c := impl.Code{Funs: []impl.Piece{{Lam: 3, In: 400, Regs: 400, Ins: toldList("ret 0")}}, Main: impl.Piece{Lam: -1, Regs: 1, Ins: []impl.Ins{i, toldIns("ret 0")}}}
	codeIs(t, "399 L", c, "")
	c.Main.Ins[0].L = make([]int, 400)
	codeIs(t, "400 L", c, "count")
	c.Main.Ins[0].L = make([]int, 398)
	codeIs(t, "398 L", c, "count")
	c = impl.Code{Main: impl.Piece{Lam: -1, Regs: 1, Ins: toldList("call 0 0 0; ret 0")}}
	for lam := range 150 {
		c.Funs = append(c.Funs, impl.Piece{Lam: lam, In: 1, Regs: 1, Ins: toldList("ret 0")})
		c.Main.Ins[0].L = append(c.Main.Ins[0].L, lam)
	}
	codeIs(t, "all Lams", c, "")
	c.Main.Ins[0].L = append(c.Main.Ins[0].L, 150)
	codeIs(t, "and one more", c, "no fun in L")
}

// The last one of a Piece: each Op there, in Main and in a Fun.
func TestCodeOkOfTheLast(t *testing.T) {
	for _, text := range rightIns() {
		i := toldIns(text)
		faults := "last"
		if i.Op == impl.OpRet || i.Op == impl.OpJump {
			faults = ""
		}
		c := inCode(toldIns("ret 0"))
		c.Main.Ins[6] = i
		codeIs(t, text+" at last", c, faults)
		c = toldCode("fun 2 1 5: ret 0; ret 0 | fun 3 3 3: ret 0 | main 1: ret 0")
		c.Funs[0].Ins[1] = i
		codeIs(t, text+" at last in a Fun", c, faults)
		c.Funs[0].Ins = []impl.Ins{i, toldIns("ret 0")}
		codeIs(t, text+" not at last", c, "")
	}
	// alone
	codeIs(t, "jump to itself", toldCode("main 0: jump 0"), "")
	codeIs(t, "jump behind the last", toldCode("main 0: jump 1"), "to")
	codeIs(t, "jump to the last", toldCode("main 0: jump 2; jump 0; jump 1"), "")
	codeIs(t, "a try to the last", toldCode("main 1: try 0 1; ret 0"), "")
	codeIs(t, "a try past the last", toldCode("main 1: try 0 2; ret 0"), "to")
}

// Each change of each instruction and each Piece of a Code, held against the test's own.
func TestCodeOkOfEachChange(t *testing.T) {
	codeIs(t, "whole", fullerCode(), "")
	changedCodes(t, func(why string, c impl.Code, faults []string) {
		codeIs(t, why, c, strings.Join(faults, ", "))
		if len(faults) == 0 {
			asPlainRunCode(t, c, 100)
		}
	})
}

// Codes by chance, and the same ones with something spoilt.
func TestCodeOkByChance(t *testing.T) {
	t.Parallel()
	r := rand.New(rand.NewSource(59))
	var changes []func(*impl.Ins)
	for _, why := range sortedKeys(insChanges()) {
		changes = append(changes, insChanges()[why])
	}
	var pieceWise []func(*impl.Piece)
	for _, why := range sortedKeys(pieceChanges()) {
		pieceWise = append(pieceWise, pieceChanges()[why])
	}
	right, wrong := 0, 0
	codes := anyCodes(600)
	for _, p := range anyProgs(200) {
		codes = append(codes, plainLower(p))
	}
	for _, c := range codes {
		codeIs(t, "by chance", c, "")
		for range 6 {
			more := evenCode(c)
			p := piecesOf(&more)[r.Intn(len(more.Funs)+1)]
			if r.Intn(3) == 0 {
				pieceWise[r.Intn(len(pieceWise))](p)
			} else {
				changes[r.Intn(len(changes))](&p.Ins[r.Intn(len(p.Ins))])
			}
			faults := codeFaults(more)
			if len(faults) == 0 {
				right++
			} else {
				wrong++
			}
			codeIs(t, "spoilt", more, strings.Join(faults, ", "))
		}
	}
	if right < 300 || wrong < 1000 {
		t.Error("too few", right, wrong)
	}
}

func TestInsText(t *testing.T) {
	for want, i := range map[string]impl.Ins{
		"0 0 0 0 0 0": {}, "1 0 0 0 5 0": {Op: 1, N: 5}, "1 2 3 4 5 6": {Op: 1, D: 2, X: 3, Y: 4, N: 5, To: 6}, "-1 -2 -3 -4 -5 -6": {Op: -1, D: -2, X: -3, Y: -4, N: -5, To: -6}, "14 1 2 3 0 0 7": {Op: 14, D: 1, X: 2, Y: 3, L: []int{7}}, "8 1 0 0 3 0 0 10 -20": {Op: 8, D: 1, N: 3, L: []int{0, 10, -20}}, "1 2 3 4 5 6 7 8": {Op: 1, D: 2, X: 3, Y: 4, N: 5, To: 6, L: []int{7, 8}},
		"19 400 1000001 0 0 -1": {Op: 19, D: 400, X: 1000001, To: -1}, "0 0 0 0 0 0 0": {L: []int{0}}, "5 10 100 1000 10000 100000": {Op: 5, D: 10, X: 100, Y: 1000, N: 10000, To: 100000},
	} {
		if got := impl.InsText(i); got != want || plainInsText(i) != want {
			t.Errorf("%q, not %q", got, want)
		}
	}
	if got := impl.InsText(impl.Ins{L: []int{}}); got != "0 0 0 0 0 0" {
		t.Errorf("%q", got)
	}
	// each field with each number, the greatest and the least int as well
	for _, n := range []int{math.MinInt, math.MinInt + 1, -1000001, -10, -9, -1, 0, 1, 9, 10, 99, 100, 1000000, math.MaxInt - 1, math.MaxInt} {
		digits := strconv.Itoa(n)
		for at, change := range []func(*impl.Ins){func(i *impl.Ins) { i.Op = n }, func(i *impl.Ins) { i.D = n }, func(i *impl.Ins) { i.X = n }, func(i *impl.Ins) { i.Y = n }, func(i *impl.Ins) { i.N = n }, func(i *impl.Ins) { i.To = n }, func(i *impl.Ins) { i.L[0] = n }, func(i *impl.Ins) { i.L[1] = n }} {
			i := impl.Ins{Op: 1, D: 2, X: 3, Y: 4, N: 5, To: 6, L: []int{7, 8}}
			change(&i)
			words := strings.Fields("1 2 3 4 5 6 7 8")
			words[at] = digits
			if got := impl.InsText(i); got != strings.Join(words, " ") {
				t.Errorf("%d: %q", at, got)
			}
		}
	}
	if impl.InsText(impl.Ins{N: math.MinInt}) != "0 0 0 0 -9223372036854775808 0" || impl.InsText(impl.Ins{N: math.MaxInt}) != "0 0 0 0 9223372036854775807 0" {
		t.Error(impl.InsText(impl.Ins{N: math.MinInt}))
	}
	long := impl.Ins{Op: 8}
	for n := range 1000 {
		long.L = append(long.L, n-500)
	}
	if got := impl.InsText(long); got != plainInsText(long) || len(strings.Fields(got)) != 1006 {
		t.Error(len(got))
	}
}

func TestCount(t *testing.T) {
	for text, want := range map[string]int{
		"main 1: ret 0": 1, "main 1: num 0 1; ret 0": 2, "main 0: jump 0": 1, "fun 2 1 1: ret 0 | main 1: ret 0": 2, "fun 2 1 2: num 1 1; num 1 2; ret 1 | fun 3 1 1: ret 0 | main 1: num 0 1; ret 0": 6, "fun 2 1 2: num 1 1; num 1 2; ret 1 | fun 3 1 1: jump 0 | fun 9 2 2: end; end; end; end; ret 0 | main 1: ret 0": 10,
		// what is not right
		"main 1: ret 1": 0, "main 1: num 0 1": 0, "fun 2 0 1: ret 0 | main 1: ret 0": 0, "fun 2 1 1: ret 0 | fun 2 1 1: ret 0 | main 1: ret 0": 0, "fun 2 1 1: ret 3 | main 1: num 0 1; ret 0": 0,
	} {
		if got := impl.Count(toldCode(text)); got != want {
			t.Errorf("%s: %d, not %d", text, got, want)
		}
	}
	if impl.Count(impl.Code{}) != 0 || impl.Count(fullerCode()) != 30 {
		t.Error(impl.Count(fullerCode()))
	}
	// as many as there can be
	var c impl.Code
	full := slices.Repeat(toldList("jump 0"), 600)
	for lam := range 150 {
		c.Funs = append(c.Funs, impl.Piece{Lam: lam, In: 1, Regs: 1, Ins: full})
	}
	c.Main = impl.Piece{Lam: -1, Ins: full}
	if got := impl.Count(c); got != 151*600 {
		t.Error(got)
	}
}

// codeArguments are Codes of all sorts, right and wrong.
func codeArguments() []impl.Code {
	all := append(anyCodes(150), fullerCode(), impl.Code{})
	for _, p := range anyProgs(60) {
		all = append(all, plainLower(p))
	}
	for _, why := range sortedKeys(insChanges()) {
		c := fullerCode()
		insChanges()[why](&c.Main.Ins[4])
		all = append(all, c)
	}
	for _, why := range sortedKeys(pieceChanges()) {
		c := fullerCode()
		pieceChanges()[why](&c.Funs[1])
		all = append(all, c)
	}
	return all
}

func TestCodeArgumentsStay(t *testing.T) {
	t.Parallel()
	for _, p := range defunArguments() {
		roomy := roomyProg(p)
		kept := fullProg(roomy)
		impl.Lower(roomy)
		if !reflect.DeepEqual(fullProg(roomy), kept) {
			t.Fatal("an argument was written to", p)
		}
	}
	for _, c := range codeArguments() {
		roomy := roomyCode(c)
		kept := fullCode(roomy)
		impl.CodeOk(roomy)
		impl.RunCode(roomy, 300)
		impl.Count(roomy)
		for _, p := range piecesOf(&roomy) {
			for _, i := range p.Ins {
				impl.InsText(i)
			}
		}
		if !reflect.DeepEqual(fullCode(roomy), kept) {
			t.Fatal("an argument was written to", codeText(c))
		}
	}
}

// What lies behind a list's length is not there.
func TestCodeSpareRoomIsNotRead(t *testing.T) {
	t.Parallel()
	for _, p := range defunArguments() {
		want, right := impl.Lower(p)
		if got, ok := impl.Lower(roomyProg(p)); ok != right || !equalCodes(got, want) {
			t.Error(impl.ProgText(p))
		}
	}
	for _, c := range codeArguments() {
		roomy := roomyCode(c)
		if impl.CodeOk(roomy) != impl.CodeOk(c) || impl.RunCode(roomy, 300) != impl.RunCode(c, 300) || impl.Count(roomy) != impl.Count(c) {
			t.Error(codeText(c))
		}
		for at, p := range piecesOf(&c) {
			for place, i := range p.Ins {
				if impl.InsText(i) != impl.InsText(piecesOf(&roomy)[at].Ins[place]) {
					t.Error(impl.InsText(i))
				}
			}
		}
	}
	// lists that lie in the room of others
	room := []int{3, 7, 3, 0}
	ins := append(toldList("make 0 3 1; call 0 0 0 3 7; ret 0"), toldIns("num 9 9"))
	ins[0].L, ins[1].L = room[3:], room[:2]
	c := toldCode("fun 3 2 2: ret 0 | fun 7 1 1: ret 0 | main 1: ret 0")
	c.Main.Ins = ins[:3]
	codeIs(t, "one room", c, "")
	asPlainRunCode(t, c, 50)
	if !slices.Equal(room, []int{3, 7, 3, 0}) || ins[3].D != 9 {
		t.Error("written into the room", room, ins)
	}
}

func TestCodeAnswersAreNewMemory(t *testing.T) {
	t.Parallel()
	// with one list at many places
	names, cases := []string{"a", "a"}, []int{3, 7}
	call := impl.FTerm{K: impl.FkCall, Cases: cases, A: []impl.FTerm{{K: impl.FkMake, N: 3, L: names}, ftVar("a")}}
	shared := impl.Prog{Funs: []impl.Fun{{Lam: 3, L: names, S: "x", Body: call}, {Lam: 7, L: names, S: "a", Body: call}}, Main: ftLet("a", ftNum(1), ftOf(impl.TmPair, call, call))}
	progIs(t, "shared", shared, "")
	for _, p := range append(defunArguments(), shared) {
		first, _ := impl.Lower(p)
		second, _ := impl.Lower(p)
		ownPlaces(t, "Lower "+impl.ProgText(p), append(codePlaces(first), codePlaces(second)...), progPlaces(p))
	}
	// what is done to one answer is not done to another
	want, _ := impl.Lower(shared)
	first, _ := impl.Lower(shared)
	for _, p := range piecesOf(&first) {
		for at := range p.Ins {
			for n := range p.Ins[at].L {
				p.Ins[at].L[n] = 99
			}
			p.Ins[at].Op = 77
		}
		p.Lam = 5
	}
	if second, _ := impl.Lower(shared); !equalCodes(second, want) || !equalCodes(want, plainLower(shared)) {
		t.Error(codeText(second))
	}
	if !slices.Equal(names, []string{"a", "a"}) || !slices.Equal(cases, []int{3, 7}) {
		t.Error("an argument was written to", names, cases)
	}
}

// Nothing is kept from one call to another.
func TestCodeKeepsNothing(t *testing.T) {
	progs := anyProgs(200)
	var codes []impl.Code
	var ended []impl.Outcome
	var counts []int
	for _, p := range progs {
		c, _ := impl.Lower(p)
		codes = append(codes, c)
		ended = append(ended, impl.RunCode(c, 700))
		counts = append(counts, impl.Count(c))
	}
	for at, p := range slices.Backward(progs) {
		impl.Lower(impl.Prog{})
		impl.CodeOk(impl.Code{})
		impl.RunCode(codes[len(progs)-1-at], 30)
		c, ok := impl.Lower(p)
		if !ok || !equalCodes(c, codes[at]) || impl.RunCode(c, 700) != ended[at] || impl.Count(c) != counts[at] {
			t.Error(plainProgText(p))
		}
	}
}
