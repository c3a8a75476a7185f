package tests

import (
	"fmt"
	"math"
	"reflect"
	"slices"
	"strconv"
	"strings"
	"testing"

	"loop.example/g00187/impl"
)

func TestPruneOfNoFunctions(t *testing.T) {
	prunedCases(t, []pruneCase{
		{"main n 5", "", "", "=", 0}, {"main t", "", "", "=", 0}, {"main nil", "", "", "=", 0}, {"main let x n 1 v x", "", "", "=", 0}, {"main case h r cons n 1 nil n 2 pair v h v r", "", "", "=", 0}, {"main try e raise n 1 op + v e n 2", "", "", "=", 0},
		// calls of nothing
		{"main call 0 n 1 n 2", "", "", "=", 0}, {"main call 0 call 0 n 1 n 2 call 0 n 3 n 4", "", "", "=", 0}, {"main let make n 1 let call v make v call", "", "", "=", 0},
	})
}

func TestPruneOfOneFunction(t *testing.T) {
	prunedCases(t, []pruneCase{
		// made, and called, by Main
		{"fun 1 0 x v x | main make 1 0", "-1: 1", "1", "=", 0}, {"fun 1 0 x v x | main call 1 1 make 1 0 n 5", "-1: 1", "1", "=", 1}, {"fun 1 0 x v x | main call 0 make 1 0 n 5", "-1: 1", "1", "=", 0}, {"fun 4 2 a b x pair v a v b | main let a n 1 call 1 4 make 4 2 a a n 5", "-1: 4", "4", "=", 1},
		// made several times
		{"fun 1 0 x v x | main pair make 1 0 pair make 1 0 make 1 0", "-1: 1", "1", "=", 0},
		// made by nobody, by itself alone, by Main and by itself
		{"fun 1 0 x v x | main n 5", "", "", "main n 5", 0}, {"fun 1 0 x make 1 0 | main n 5", "1: 1", "", "main n 5", 0}, {"fun 1 0 x call 1 1 make 1 0 v x | main n 5", "1: 1", "", "main n 5", 1}, {"fun 1 0 x call 1 1 make 1 0 v x | main call 1 1 make 1 0 n 5", "-1: 1; 1: 1", "1", "=", 2}, {"fun 1 0 x if t n 0 pair make 1 0 make 1 0 | main make 1 0", "-1: 1; 1: 1", "1", "=", 0},
		// in Cases alone
		{"fun 1 0 x v x | main call 1 1 n 4 n 5", "", "", "main call 0 n 4 n 5", 1}, {"fun 1 0 x call 1 1 v x v x | main n 5", "", "", "main n 5", 1}, {"fun 1 0 x call 1 1 make 1 0 v x | main call 1 1 n 4 n 5", "1: 1", "", "main call 0 n 4 n 5", 2}, {"fun 1 0 x v x | main pair call 0 n 1 n 2 call 1 1 n 3 n 4", "", "", "main pair call 0 n 1 n 2 call 0 n 3 n 4", 1},
		// where it is never come to
		{"fun 1 0 x v x | main if t n 5 make 1 0", "-1: 1", "1", "=", 0}, {"fun 1 0 x v x | main let y raise n 1 make 1 0", "-1: 1", "1", "=", 0}, {"fun 1 0 x v x | main try e n 1 call 1 1 make 1 0 n 5", "-1: 1", "1", "=", 1},
		// the least and the greatest one
		{"fun 0 0 x v x | main call 1 0 make 0 0 n 5", "-1: 0", "0", "=", 1}, {"fun 149 0 x v x | main call 1 149 make 149 0 n 5", "-1: 149", "149", "=", 1}, {"fun 0 0 x v x | main call 1 0 n 4 n 5", "", "", "main call 0 n 4 n 5", 1}, {"fun 149 0 x v x | main call 1 149 n 4 n 5", "", "", "main call 0 n 4 n 5", 1},
		{"fun 0 0 x make 149 0 | fun 149 0 x make 0 0 | main make 149 0", "-1: 149; 149: 0; 0: 149", "0 149", "=", 0}, {"fun 0 0 x make 149 0 | fun 149 0 x n 1 | main call 2 0 149 n 1 n 2", "0: 149", "", "main call 0 n 1 n 2", 0},
		// its number elsewhere: as a number, and as that of an operation
		{"fun 1 0 x v x | main op + n 1 n 1", "", "", "main op + n 1 n 1", 0}, {"fun 1 0 x v x | main pair n 1 t", "", "", "main pair n 1 t", 0},
	})
}

func TestPruneOfManyFunctions(t *testing.T) {
	prunedCases(t, []pruneCase{
		// the first, the last, the one between
		{"fun 1 0 x n 1 | fun 2 0 x n 2 | fun 3 0 x n 3 | main make 1 0", "-1: 1", "1", "fun 1 0 x n 1 | main make 1 0", 0}, {"fun 1 0 x n 1 | fun 2 0 x n 2 | fun 3 0 x n 3 | main make 2 0", "-1: 2", "2", "fun 2 0 x n 2 | main make 2 0", 0}, {"fun 1 0 x n 1 | fun 2 0 x n 2 | fun 3 0 x n 3 | main make 3 0", "-1: 3", "3", "fun 3 0 x n 3 | main make 3 0", 0},
		{"fun 1 0 x n 1 | fun 2 0 x n 2 | fun 3 0 x n 3 | main pair make 3 0 make 1 0", "-1: 1 3", "1 3", "fun 1 0 x n 1 | fun 3 0 x n 3 | main pair make 3 0 make 1 0", 0}, {"fun 1 0 x n 1 | fun 2 0 x n 2 | fun 3 0 x n 3 | main pair make 3 0 pair make 1 0 pair make 3 0 make 2 0", "-1: 1 2 3", "1 2 3", "=", 0},
		// one makes the next one, upwards, downwards, and both ways
		{"fun 1 0 x make 2 0 | fun 2 0 x make 3 0 | fun 3 0 x n 3 | main make 1 0", "-1: 1; 1: 2; 2: 3", "1 2 3", "=", 0}, {"fun 1 0 x make 2 0 | fun 2 0 x make 3 0 | fun 3 0 x n 3 | main make 2 0", "-1: 2; 1: 2; 2: 3", "2 3", "fun 2 0 x make 3 0 | fun 3 0 x n 3 | main make 2 0", 0},
		{"fun 1 0 x n 1 | fun 2 0 x make 1 0 | fun 3 0 x make 2 0 | main make 3 0", "-1: 3; 3: 2; 2: 1", "1 2 3", "=", 0}, {"fun 1 0 x n 1 | fun 2 0 x make 1 0 | fun 3 0 x make 2 0 | main make 2 0", "-1: 2; 3: 2; 2: 1", "1 2", "fun 1 0 x n 1 | fun 2 0 x make 1 0 | main make 2 0", 0},
		{"fun 1 0 x make 5 0 | fun 3 0 x n 3 | fun 5 0 x make 3 0 | fun 7 0 x make 1 0 | main make 1 0", "-1: 1; 1: 5; 5: 3; 7: 1", "1 3 5", "fun 1 0 x make 5 0 | fun 3 0 x n 3 | fun 5 0 x make 3 0 | main make 1 0", 0},
		// one that only one that is gone makes, and all that hangs on it
		{"fun 1 0 x n 1 | fun 2 0 x make 3 0 | fun 3 0 x make 4 0 | fun 4 0 x n 4 | main make 1 0", "-1: 1; 2: 3; 3: 4", "1", "fun 1 0 x n 1 | main make 1 0", 0}, {"fun 1 0 x n 1 | fun 2 0 x pair make 1 0 make 3 0 | fun 3 0 x make 1 0 | main make 1 0", "-1: 1; 2: 1 3; 3: 1", "1", "fun 1 0 x n 1 | main make 1 0", 0},
		// a ring that nobody comes to, one that Main comes to, one that another comes to, one that leads on
		{"fun 1 0 x make 2 0 | fun 2 0 x make 3 0 | fun 3 0 x make 1 0 | main n 5", "1: 2; 2: 3; 3: 1", "", "main n 5", 0}, {"fun 1 0 x make 2 0 | fun 2 0 x make 3 0 | fun 3 0 x make 1 0 | main make 3 0", "-1: 3; 1: 2; 2: 3; 3: 1", "1 2 3", "=", 0},
		{"fun 1 0 x make 2 0 | fun 2 0 x make 1 0 | fun 3 0 x make 4 0 | fun 4 0 x make 3 0 | main make 4 0", "-1: 4; 1: 2; 2: 1; 3: 4; 4: 3", "3 4", "fun 3 0 x make 4 0 | fun 4 0 x make 3 0 | main make 4 0", 0}, {"fun 1 0 x make 2 0 | fun 2 0 x make 1 0 | fun 3 0 x make 2 0 | main make 3 0", "-1: 3; 1: 2; 2: 1; 3: 2", "1 2 3", "=", 0},
		{"fun 1 0 x make 2 0 | fun 2 0 x pair make 1 0 make 3 0 | fun 3 0 x n 3 | fun 4 0 x n 4 | main make 1 0", "-1: 1; 1: 2; 2: 1 3", "1 2 3", "fun 1 0 x make 2 0 | fun 2 0 x pair make 1 0 make 3 0 | fun 3 0 x n 3 | main make 1 0", 0},
		// a ring whose functions nobody makes but it makes others that are kept
		{"fun 1 0 x pair make 2 0 make 3 0 | fun 2 0 x make 1 0 | fun 3 0 x n 3 | main call 1 1 make 3 0 n 5", "-1: 3; 1: 2 3; 2: 1", "3", "fun 3 0 x n 3 | main call 0 make 3 0 n 5", 1},
		// two ways to one
		{"fun 1 0 x make 3 0 | fun 2 0 x make 3 0 | fun 3 0 x n 3 | main pair make 1 0 make 2 0", "-1: 1 2; 1: 3; 2: 3", "1 2 3", "=", 0}, {"fun 1 0 x make 3 0 | fun 2 0 x make 3 0 | fun 3 0 x n 3 | main make 2 0", "-1: 2; 1: 3; 2: 3", "2 3", "fun 2 0 x make 3 0 | fun 3 0 x n 3 | main make 2 0", 0},
		// what is captured stays as it is
		{"fun 1 2 a b x make 4 3 b x a | fun 2 1 a x v a | fun 4 3 c d e y pair v c pair v d v e | main let a n 1 let b n 2 call 1 4 call 1 1 make 1 2 b a n 3 n 4", "-1: 1; 1: 4", "1 4", "fun 1 2 a b x make 4 3 b x a | fun 4 3 c d e y pair v c pair v d v e | main let a n 1 let b n 2 call 1 4 call 1 1 make 1 2 b a n 3 n 4", 2},
	})
}

func TestPruneCases(t *testing.T) {
	prunedCases(t, []pruneCase{
		// the first goes, the last, the one between, all but one, all
		{"fun 1 0 x n 1 | fun 2 0 x n 2 | fun 3 0 x n 3 | main call 3 1 2 3 pair make 2 0 make 3 0 n 5", "-1: 2 3", "2 3", "fun 2 0 x n 2 | fun 3 0 x n 3 | main call 2 2 3 pair make 2 0 make 3 0 n 5", 0}, {"fun 1 0 x n 1 | fun 2 0 x n 2 | fun 3 0 x n 3 | main call 3 1 2 3 pair make 1 0 make 2 0 n 5", "-1: 1 2", "1 2", "fun 1 0 x n 1 | fun 2 0 x n 2 | main call 2 1 2 pair make 1 0 make 2 0 n 5", 0},
		{"fun 1 0 x n 1 | fun 2 0 x n 2 | fun 3 0 x n 3 | main call 3 1 2 3 pair make 3 0 make 1 0 n 5", "-1: 1 3", "1 3", "fun 1 0 x n 1 | fun 3 0 x n 3 | main call 2 1 3 pair make 3 0 make 1 0 n 5", 0}, {"fun 1 0 x n 1 | fun 2 0 x n 2 | fun 3 0 x n 3 | main call 3 1 2 3 make 2 0 n 5", "-1: 2", "2", "fun 2 0 x n 2 | main call 1 2 make 2 0 n 5", 0}, {"fun 1 0 x n 1 | fun 2 0 x n 2 | fun 3 0 x n 3 | main call 3 1 2 3 n 4 n 5", "", "", "main call 0 n 4 n 5", 0},
		// each call has its own ones
		{"fun 1 0 x n 1 | fun 2 0 x n 2 | fun 3 0 x n 3 | main pair call 1 1 make 1 0 n 4 pair call 1 2 make 1 0 n 5 pair call 2 2 3 make 1 0 n 6 call 2 1 3 make 1 0 n 7", "-1: 1", "1", "fun 1 0 x n 1 | main pair call 1 1 make 1 0 n 4 pair call 0 make 1 0 n 5 pair call 0 make 1 0 n 6 call 1 1 make 1 0 n 7", 2},
		// in a function that is kept, and in one that is gone
		{"fun 1 0 x call 3 1 2 3 make 3 0 v x | fun 2 0 x call 2 1 2 make 3 0 v x | fun 3 0 x call 1 2 n 4 v x | main make 1 0", "-1: 1; 1: 3; 2: 3", "1 3", "fun 1 0 x call 2 1 3 make 3 0 v x | fun 3 0 x call 0 n 4 v x | main make 1 0", 1},
		// one within the other, in both parts
		{"fun 1 0 x n 1 | fun 2 0 x n 2 | main call 2 1 2 call 2 1 2 make 1 0 n 3 call 2 1 2 n 4 call 1 2 n 5 n 6", "-1: 1", "1", "fun 1 0 x n 1 | main call 1 1 call 1 1 make 1 0 n 3 call 1 1 n 4 call 0 n 5 n 6", 1},
		// in an L there are names alone, however they are called
		{"fun 1 1 make x v make | fun 2 1 call x v call | main let make n 1 call 2 1 2 make 1 1 make n 5", "-1: 1", "1", "fun 1 1 make x v make | main let make n 1 call 1 1 make 1 1 make n 5", 0},
	})
}

// A call that has no case for its record has none before, and none after.
func TestPrunedRunsJustTheSame(t *testing.T) {
	for text, told := range map[string]string{
		"fun 1 0 x n 7 | fun 2 0 x n 8 | main call 1 2 make 1 0 n 5": "raise -3", "fun 1 0 x n 7 | fun 2 0 x n 8 | main call 2 1 2 make 1 0 n 5": "7", "fun 1 0 x n 7 | fun 2 0 x n 8 | main call 1 2 n 4 n 5": "raise -2", "fun 1 0 x n 7 | main call 1 1 n 4 raise n 9": "raise 9",
		"fun 1 0 x n 7 | fun 2 0 x n 8 | main try e call 1 2 make 1 0 n 5 v e": "-3", "fun 1 0 x n 7 | fun 2 0 x n 8 | main if t n 3 make 2 0": "3", "fun 1 0 x make 1 0 | fun 2 0 x v x | main pair make 2 0 cons make 2 0 nil": "(fn,[fn])",
		"fun 1 1 a x call 2 1 2 make 1 1 a op - v x v a | fun 2 0 x v x | main let d n 1 call 2 1 2 make 1 1 d n 9":                                     "fuel",
		"fun 1 1 a x if op < v x n 1 v a call 3 1 2 4 make 1 1 a op - v x n 1 | fun 2 0 x v x | fun 4 0 x v x | main let d n 6 call 1 1 make 1 1 d n 9": "6",
	} {
		p := toldProg(text)
		asPlainPruned(t, p)
		if end, _ := runsPruned(t, p, impl.MaxFuel); end != ends(told) {
			t.Errorf("%s: %v, not %s", text, end, told)
		}
		if end := impl.RunProg(impl.Prune(p), impl.MaxFuel); end != ends(told) {
			t.Errorf("%s: pruned %v, not %s", text, end, told)
		}
	}
}

// A record, and a call whose cases go, in each place of each kind of term, as deep as can be, in Main and in Funs.
func TestPruneAtEachPlace(t *testing.T) {
	wraps := bareWraps()
	places := 0
	for _, how := range sortedKeys(wraps) {
		for _, depth := range []int{0, 1, 2, 3, 20, 21} {
			// the call is in the last two or three nodes of the way
			call, less := ftCall(ftMake(9), ftNum(2), 3, 5, 7, 9), ftCall(ftMake(9), ftNum(2), 9)
			for range depth {
				call, less = wraps[how](call), wraps[how](less)
			}
			seven := ftFun(7, "x", ftNum(7))
			nine := ftFun(9, "x", ftVar("x"))
			three, five := ftFun(3, "x", ftCall(ftMake(5), ftNum(0), 3)), ftFun(5, "x", ftNum(5))
			p := progOf(call, three, five, seven, nine)
			if got := asPlainPruned(t, p); !equalProgs(got, progOf(less, nine)) || impl.Singles(impl.Prune(p)) != 1 {
				t.Errorf("%s %d: %s", how, depth, plainProgText(got))
			}
			runsPruned(t, p, 500)
			// in a Fun that is kept, and in one that is gone
			p = progOf(ftMake(7), three, five, ftFun(7, "x", call), nine)
			if got := asPlainPruned(t, p); !equalProgs(got, progOf(ftMake(7), ftFun(7, "x", ftCasesOf(call, 7, 9)), nine)) {
				t.Errorf("%s %d in a Fun: %s", how, depth, plainProgText(got))
			}
			p = progOf(ftMake(9), three, five, ftFun(7, "x", call), nine)
			if got := asPlainPruned(t, p); !equalProgs(got, progOf(ftMake(9), nine)) || impl.Singles(p) != 1 || impl.Singles(impl.Prune(p)) != 0 {
				t.Errorf("%s %d in a Fun that is gone: %s", how, depth, plainProgText(got))
			}
			places++
		}
	}
	if places < 120 {
		t.Error("too few", places)
	}
}

// ftCasesOf has these cases in each call that has four.
func ftCasesOf(t impl.FTerm, cases ...int) impl.FTerm {
	more := evenFTerm(t)
	for _, n := range progNodes(&impl.Prog{Main: more}) {
		if len(n.Cases) == 4 {
			copy(n.Cases, cases)
			n.Cases = n.Cases[:len(cases)]
		}
	}
	if len(more.Cases) == 4 {
		more.Cases = cases
	}
	return more
}

// Where there is one case, where there are none and several, in Main and in Funs, kept or not.
func TestSingles(t *testing.T) {
	head := "fun 1 0 x n 1 | fun 2 0 x n 2 | "
	for text, want := range map[string]int{
		"main n 1": 0, "main make 1 0": 0, "main call 0 n 1 n 2": 0, "main call 1 1 n 1 n 2": 1, "main call 1 2 n 1 n 2": 1, "main call 2 1 2 n 1 n 2": 0,
		"main pair call 1 1 n 1 n 2 call 1 2 n 1 n 2": 2, "main pair call 1 1 n 1 n 2 call 1 1 n 1 n 2": 2, "main pair call 1 1 n 1 n 2 call 2 1 2 n 1 n 2": 1, "main call 1 1 call 1 2 n 1 n 2 call 1 1 n 3 n 4": 3, "main call 2 1 2 call 1 2 n 1 n 2 call 0 n 3 n 4": 1, "main call 0 call 0 n 1 n 2 call 1 2 n 3 n 4": 1,
		"fun 3 0 x call 1 3 n 1 n 2 | main n 1": 1, "fun 3 0 x call 1 3 n 1 n 2 | main call 1 3 make 3 0 n 2": 2, "fun 3 0 x call 0 n 1 n 2 | fun 4 0 x call 1 1 call 1 2 n 1 n 2 call 2 1 2 n 1 n 2 | main call 1 4 n 1 n 2": 3, "main let x call 1 1 n 1 n 2 try e call 1 1 n 1 n 2 case h r call 1 1 n 1 n 2 call 1 1 n 1 n 2 if call 1 1 n 1 n 2 raise call 1 1 n 1 n 2 fst call 1 1 n 1 n 2": 7,
	} {
		p := toldProg(head + text)
		if own := plainSingles(p); own != want {
			t.Error("the test's own", text, own)
		}
		if got := impl.Singles(p); got != want {
			t.Errorf("%s: %d, not %d", text, got, want)
		}
		asPlainPruned(t, p)
	}
	// as many calls as can be, and one of them with two cases
	calls := ftNum(1)
	for range 22 {
		calls = ftCall(ftMake(0), calls, 0)
	}
	p := progOf(ftOf(impl.TmPair, ftCall(ftMake(0), ftMake(149), 0, 149), calls), ftFun(0, "x", calls), ftFun(149, "x", calls))
	progIs(t, "many calls", p, "")
	if got := impl.Singles(p); got != 66 {
		t.Error(got)
	}
	asPlainPruned(t, p)
}

// A number of no Fun needs nothing, wherever else it stands.
func TestNeedsOfNoFun(t *testing.T) {
	p := toldProg("fun 5 0 x pair make 9 0 make 7 0 | fun 7 0 x make 5 0 | fun 9 0 x call 2 5 7 n 4 n 6 | main pair make 7 0 call 3 5 7 9 n 8 n 10")
	for lam, want := range map[int]string{-1: "7", 5: "7 9", 7: "5", 9: "", 4: "", 6: "", 8: "", 10: "", 0: "", 1: "", 149: "", 150: "", -2: "", 18: "", -5: "", -7: "", math.MinInt: "", math.MaxInt: "", math.MaxInt32: "", 1<<32 + 5: "", 5 - 1<<32: "", 5 + 256: "", 5 - 256: ""} {
		if got := impl.Needs(p, lam); !slices.Equal(got, toldLams(want)) {
			t.Errorf("%d needs %v, not %s", lam, got, want)
		}
	}
	asPlainPruned(t, p)
	// of Main alone
	p = progOf(ftNum(1))
	for _, lam := range append(noLams(), -1, 0, 1, 149) {
		if got := impl.Needs(p, lam); len(got) > 0 {
			t.Error(lam, got)
		}
	}
}

// Each Lam there may be, made and not.
func TestPruneOfEachLam(t *testing.T) {
	for lam := range 150 {
		p := progOf(ftCall(ftMake(lam), ftNum(1), lam), ftFun(lam, "x", ftVar("x")))
		if got := impl.Needs(p, -1); !slices.Equal(got, []int{lam}) || !slices.Equal(impl.Kept(p), got) || !equalProgs(impl.Prune(p), p) {
			t.Error(lam, got)
		}
		p.Main.A[0] = ftNum(2)
		if got := impl.Prune(p); len(impl.Kept(p)) > 0 || !equalProgs(got, progOf(ftCall(ftNum(2), ftNum(1)))) {
			t.Error(lam, plainProgText(got))
		}
	}
	// all of them at once: each second one, each third one, each, none; upwards and downwards
	var lams []int
	for lam := range 150 {
		lams = append(lams, lam)
	}
	for step := range 10 {
		for _, up := range []bool{true, false} {
			var funs []impl.Fun
			for _, lam := range lams {
				next := lam + step
				if !up {
					next = lam - step
				}
				body := ftMake(next)
				if next < 0 || next > 149 {
					body = ftVar("x")
				}
				funs = append(funs, ftFun(lam, "x", body))
			}
			first := map[bool]int{true: 0, false: 149}[up]
			p := progOf(ftCall(ftMake(first), ftNum(1), lams...), funs...)
			var kept []int
			for lam := range 150 {
				if step == 0 && lam == first || step > 0 && (lam-first)%step == 0 {
					kept = append(kept, lam)
				}
			}
			if got := impl.Kept(p); !slices.Equal(got, kept) || len(kept) < 1 {
				t.Error(step, up, got, kept)
			}
			got := impl.Prune(p)
			if faults := progFaults(got); len(faults) > 0 || !slices.Equal(lamsOf(got), kept) || !slices.Equal(got.Main.Cases, kept) {
				t.Error(step, up, plainProgText(got))
			}
		}
	}
	// a ring of all, and rings of some of which Main comes to one
	for _, size := range []int{1, 2, 3, 5, 10, 50, 75, 150} {
		for start := 0; start < 150; start += 37 {
			var funs []impl.Fun
			var kept []int
			for _, lam := range lams {
				ring := lam / size * size
				funs = append(funs, ftFun(lam, "x", ftMake(ring+(lam-ring+1)%size)))
				if ring == start/size*size {
					kept = append(kept, lam)
				}
			}
			if p := progOf(ftMake(start), funs...); !slices.Equal(impl.Kept(p), kept) || len(kept) != size || !slices.Equal(lamsOf(impl.Prune(p)), kept) {
				t.Error(size, start, impl.Kept(p))
			}
		}
	}
}

// Each way in which three functions and Main may make each other.
func TestPruneOfEachSmallProg(t *testing.T) {
	t.Parallel()
	lams := []int{2, 3, 11}
	some := func(bits int) []int {
		var list []int
		for i, lam := range lams {
			if bits>>i&1 == 1 {
				list = append(list, lam)
			}
		}
		return list
	}
	sizes := map[int]int{}
	for way := range 1 << 12 {
		p := linked(lams, map[int][]int{-1: some(way), 2: some(way >> 3), 3: some(way >> 6), 11: some(way >> 9)})
		// by going on from Main alone
		kept := map[int]bool{}
		var come func(lam int)
		come = func(lam int) {
			for _, next := range plainNeeds(p, lam) {
				if !kept[next] {
					kept[next] = true
					come(next)
				}
			}
		}
		come(-1)
		if got := impl.Kept(p); !slices.Equal(got, setOf(kept)) || !slices.Equal(got, plainKept(p)) {
			t.Errorf("%s: %v, not %v", plainProgText(p), got, setOf(kept))
		}
		sizes[len(kept)]++
		if !equalProgs(impl.Prune(p), plainPrune(p)) {
			t.Errorf("%s: %s", plainProgText(p), plainProgText(impl.Prune(p)))
		}
		if way%7 == 0 {
			asPlainPruned(t, p)
		}
	}
	if sizes[0] != 1<<9 || sizes[1] < 300 || sizes[2] < 500 || sizes[3] < 1500 {
		t.Error("the test's own", sizes)
	}
}

// Programs of 200 nodes and of 24 deep, and one more.
func TestPruneOfTheGreatestProgs(t *testing.T) {
	for nodes := 195; nodes <= 202; nodes++ {
		for main := 3; main < nodes; main += 61 {
			p := progOf(ftCall(ftMake(4), bareOfNodes(main-2), 2, 4), ftFun(2, "x", ftMake(4)), ftFun(4, "x", bareOfNodes(nodes-main-1)))
			if len(progNodes(&p)) != nodes {
				t.Fatal("the test's own", nodes, main)
			}
			if nodes > 200 {
				progIs(t, "too many", p, "nodes")
				notPruned(t, "too many", p)
				continue
			}
			asPlainPruned(t, p)
			runsPruned(t, p, 1000)
			// all but Main gone
			p.Main.A[0] = ftNum(1)
			if got := asPlainPruned(t, p); len(got.Funs) > 0 || len(got.Main.Cases) > 0 {
				t.Error(plainProgText(got))
			}
		}
	}
	wraps := bareWraps()
	for _, how := range sortedKeys(wraps) {
		term, call := ftMake(6), ftCall(ftMake(6), ftNum(1), 1, 6)
		for depth := 1; depth <= 26; depth++ {
			for _, p := range []impl.Prog{progOf(term, ftFun(1, "x", ftNum(1)), ftFun(6, "x", term)), progOf(call, ftFun(1, "x", call), ftFun(6, "x", ftNum(1)))} {
				faults := progFaults(p)
				if len(faults) == 0 {
					asPlainPruned(t, p)
					continue
				}
				if !slices.Equal(faults, []string{"depth"}) || depth < 24 {
					t.Error("the test's own", how, depth, faults)
				}
				notPruned(t, how+" too deep", p)
			}
			term, call = wraps[how](term), wraps[how](call)
		}
	}
	// as many functions as can be
	var funs, others []impl.Fun
	for lam := range 150 {
		funs = append(funs, ftFun(lam, "x", ftMake((lam+75)%150)))
		others = append(others, ftFun(lam, "x", ftVar("x")))
	}
	p := progOf(ftCall(ftMake(140), bareOfNodes(48), 0, 65, 70, 140, 149), funs...)
	if got := asPlainPruned(t, p); !slices.Equal(lamsOf(got), []int{65, 140}) || !slices.Equal(got.Main.Cases, []int{65, 140}) {
		t.Error(plainProgText(got))
	}
	asPlainPruned(t, progOf(bareOfNodes(50), others...))
	p = progOf(bareOfNodes(51), others...)
	progIs(t, "one too many", p, "nodes")
	notPruned(t, "one too many", p)
}

// As many names as one likes.
func TestPruneOfManyNames(t *testing.T) {
	var names []string
	for i := range 3000 {
		names = append(names, "n"+strconv.Itoa(i))
	}
	many := slices.Repeat([]string{"x"}, 3000)
	p := progOf(ftLet("x", ftNum(7), ftCall(ftMake(0, many...), ftNum(1), 0, 1)), ftFun(0, "arg", ftVar("n2999"), names...), ftFun(1, "arg", ftMake(0, names...), names...))
	progIs(t, "many names", p, "")
	pruned := impl.Prune(p)
	if len(pruned.Funs) != 1 || !slices.Equal(pruned.Funs[0].L, names) || !slices.Equal(pruned.Main.A[1].A[0].L, many) || !slices.Equal(pruned.Main.A[1].Cases, []int{0}) {
		t.Error(len(pruned.Funs))
	}
	runsPruned(t, p, 100)
}

// P19 of what Defun makes: each function is made where it stands, so nothing of it goes.
func TestPruneOfWhatDefunMakes(t *testing.T) {
	t.Parallel()
	counts := pruneCounts{}
	for _, term := range slices.Concat(knots(250), flowTerms(200)) {
		p, ok := impl.Defun(term)
		if !ok {
			t.Fatal("the test's own")
		}
		asPlainPruned(t, p)
		end, m := runsPruned(t, p, impl.MaxFuel)
		counts.look(p, end, m)
		if after := impl.RunProg(impl.Prune(p), impl.MaxFuel); !impl.SameEnd(impl.Run(term, impl.MaxFuel), after) {
			t.Errorf("%s: %v", plainTermText(term), after)
		}
		if !equalProgs(impl.Prune(p), p) {
			t.Errorf("%s: %s", plainTermText(term), plainProgText(impl.Prune(p)))
		}
	}
	counts.atLeast(t, map[string]int{"kept": 1000, "kept by others": 300, "kept, makes itself": 200, "end 1": 150, "end 2": 60})
}

// Terms of Defun in which records are put away by hand: what is left runs just the same with what goes, and without.
func TestPruneOfBentProgs(t *testing.T) {
	t.Parallel()
	counts := pruneCounts{}
	for i, term := range slices.Concat(knots(300), flowTerms(200)) {
		p, _ := impl.Defun(term)
		for k, n := range progNodes(&p) {
			if n.K == impl.FkMake && (i+k)%3 == 0 {
				*n = ftNum(k % 5)
			}
		}
		asPlainPruned(t, p)
		end, m := runsPruned(t, p, 3000)
		counts.look(p, end, m)
	}
	counts.atLeast(t, map[string]int{"kept": 500, "gone": 400, "gone, made by what is gone": 50, "kept, made by what is gone too": 10, "fewer cases": 50, "no case left": 200, "end 1": 100, "end 2": 100})
}

// P19 of Progs of all sorts.
func TestPruneByChance(t *testing.T) {
	t.Parallel()
	counts := pruneCounts{}
	for _, p := range slices.Concat(prunableProgs(2500), anyProgs(600), []impl.Prog{fullerProg()}) {
		asPlainPruned(t, p)
		end, m := runsPruned(t, p, 3000)
		counts.look(p, end, m)
	}
	counts.atLeast(t, map[string]int{"kept": 3000, "kept by others": 1000, "gone": 5000, "gone, made by what is gone": 1500, "kept, made by what is gone too": 400, "kept, makes itself": 100, "fewer cases": 500, "no case left": 300, "no case": 10, "end 1": 800, "end 2": 500, "end 3": 10})
}

// What stays is as it was: names, numbers, places; more functions that nobody makes change nothing.
func TestPruneOfMoreFunctionsThatNobodyMakes(t *testing.T) {
	t.Parallel()
	met := 0
	for i, p := range prunableProgs(1000) {
		pruned := impl.Prune(p)
		more := evenProg(pruned)
		var added []int
		for lam := i % 5; lam < 150; lam += 11 {
			if !slices.Contains(lamsOf(pruned), lam) {
				added = append(added, lam)
			}
		}
		if len(progNodes(&more))+2*len(added) > 200 || len(added) == 0 {
			continue
		}
		met++
		for k, lam := range added {
			body := ftOf(impl.TmFst, ftMake(added[(k+i)%len(added)]))
			more.Funs = append(more.Funs, ftFun(lam, "x", body))
		}
		slices.SortFunc(more.Funs, func(a, b impl.Fun) int { return a.Lam - b.Lam })
		for _, n := range progNodes(&more) {
			if n.K == impl.FkCall {
				n.Cases = append(n.Cases, added...)
				slices.Sort(n.Cases)
			}
		}
		progIs(t, "more", more, "")
		if got := impl.Prune(more); !equalProgs(got, pruned) || !slices.Equal(impl.Kept(more), impl.Kept(pruned)) {
			t.Errorf("%s: pruned to %s", plainProgText(more), plainProgText(got))
		}
	}
	if met < 600 {
		t.Error("too few", met)
	}
}

// Names tell nothing: with others it is pruned the same.
func TestPruneForgetsNames(t *testing.T) {
	names := map[string]string{"x": "make", "y": "call", "z": "q", "zz": "fun", "p.q": "main", "abcdefgh": "a"}
	for _, p := range prunableProgs(200) {
		other := renamedProg(p, names)
		progIs(t, "renamed", other, "")
		if !equalProgs(impl.Prune(other), renamedProg(impl.Prune(p), names)) || !slices.Equal(impl.Kept(other), impl.Kept(p)) || impl.Singles(other) != impl.Singles(p) {
			t.Error(plainProgText(p))
		}
	}
}

// Pruned code is code of the same end.
func TestPrunedIsLowered(t *testing.T) {
	t.Parallel()
	fewer := 0
	for _, term := range knots(300) {
		p, _ := impl.Defun(term)
		for i, n := range progNodes(&p) {
			if n.K == impl.FkCall && i%4 == 0 {
				n.A[0] = ftNum(1)
			}
		}
		pruned := impl.Prune(p)
		before, ok := impl.Lower(p)
		after, right := impl.Lower(pruned)
		if !ok || !right {
			t.Error(plainProgText(p), ok, right)
			continue
		}
		if impl.Count(after) < impl.Count(before) {
			fewer++
		}
		if was, is := impl.RunCode(before, 4000), impl.RunCode(after, 4000); was != is {
			t.Errorf("%s: %v, not %v", plainProgText(p), is, was)
		}
	}
	if fewer < 60 {
		t.Error("too few", fewer)
	}
}

func TestPruneOfWhatIsNotRight(t *testing.T) {
	t.Parallel()
	notPruned(t, "zero", impl.Prog{})
	notPruned(t, "a zero Fun", progOf(ftNum(1), impl.Fun{}))
	notPruned(t, "Main alone is not right", progOf(impl.FTerm{}, ftFun(0, "x", ftNum(1))))
	notPruned(t, "a Fun that is not kept is not right", progOf(ftNum(1), ftFun(0, "x", impl.FTerm{})))
	// each condition alone, where it is kept and where it is not
	head := "fun 1 0 x v x | fun 3 1 a x call 1 3 make 1 0 v a | "
	for _, text := range []string{
		"main v x", "main n 1000001", "main make 2 0", "main make 1 1 x", "main make 3 0", "main make -1 0", "main make 150 0", "main let b n 1 make 3 2 b b", "main let b n 1 make 3 1 c", "main call 1 2 n 1 n 2", "main call 2 3 1 n 1 n 2", "main call 2 1 1 n 1 n 2", "main call 1 -1 n 1 n 2", "main call 1 150 n 1 n 2", "main case x x nil n 1 n 2", "main let X n 1 n 2",
		"fun 5 0 x v y | main make 1 0", "fun 5 0 x make 4 0 | main make 1 0", "fun 5 0 x call 1 4 n 1 n 2 | main make 1 0", "fun 5 0 X n 1 | main make 1 0", "fun 5 1 Y x n 1 | main make 1 0", "fun 3 0 x n 1 | main make 1 0", "fun 2 0 x n 1 | main make 1 0", "fun -1 0 x n 1 | main make 1 0", "fun 150 0 x n 1 | main make 1 0", "fun 5 0 x n -1000001 | main make 1 0",
	} {
		notPruned(t, text, toldProg(head+text))
		notPruned(t, text, toldProg(head+strings.Replace(text, "main ", "main pair make 1 0 ", 1)))
	}
	reversed := fullerProg()
	slices.Reverse(reversed.Funs)
	notPruned(t, "turned", reversed)
	right, wrong := 0, 0
	look := func(why string, p impl.Prog) {
		if len(progFaults(p)) == 0 {
			asPlainPruned(t, p)
			right++
			return
		}
		notPruned(t, why, p)
		wrong++
	}
	whole := fullerProg()
	for i := range progNodes(&whole) {
		for why, change := range spoiling() {
			p := fullerProg()
			change(progNodes(&p)[i])
			look(why+" at "+strconv.Itoa(i), p)
		}
	}
	for i := range whole.Funs {
		for why, change := range funSpoiling() {
			p := fullerProg()
			change(&p.Funs[i])
			look(why+" of the Fun "+strconv.Itoa(i), p)
		}
	}
	// by chance, something spoilt in each
	changes := spoiling()
	keys := sortedKeys(changes)
	for i, p := range prunableProgs(600) {
		nodes := progNodes(&p)
		changes[keys[i%len(keys)]](nodes[i*7%len(nodes)])
		look("spoilt by "+keys[i%len(keys)], p)
	}
	if right < 100 || wrong < 600 {
		t.Error("too few", right, wrong)
	}
}

// What is nobody's: deep, wide, without end, with one list at many places. It comes back as it is, in lists of its own.
func TestPruneOfWhatIsNobodys(t *testing.T) {
	t.Parallel()
	deep := ftNum(1)
	for range 100000 {
		deep = ftOf(impl.TmFst, deep)
	}
	called := []impl.FTerm{ftNum(1), {}}
	called[1] = impl.FTerm{K: impl.FkCall, Cases: []int{1}, A: called}
	room := []impl.FTerm{ftMake(1, "x"), ftCall(ftNum(1), ftNum(2), 1, 2), {K: 77, S: "y"}, ftMake(2)}
	many := slices.Repeat([]string{"x"}, 1000)
	wide := ftOf(impl.TmPair, slices.Repeat([]impl.FTerm{ftMake(1, many...)}, 1000)...)
	terms := map[string]impl.FTerm{
		"deep": deep, "holds itself": ftRound(1), "holds itself by five": ftRound(5), "a call that holds itself": called[1], "shared": ftShared(8, ftMake(1, "x")), "shared without end": ftShared(200, ftMake(1, "x", "y")), "wide": impl.FTerm{K: impl.TmPair, A: make([]impl.FTerm, 100000)},
		"many names at many places": wide, "many cases": ftCall(ftNum(1), ftNum(2), make([]int, 100000)...), "lists that begin at one place": ftOf(impl.TmPair, impl.FTerm{K: 99, A: room[:2]}, impl.FTerm{K: 98, A: room[:3]}, impl.FTerm{K: 97, A: room[1:]}, impl.FTerm{K: 97, A: room[:2]}),
		"unknown": {K: -7, N: math.MinInt, S: "No name", Z: "\xff", L: []string{"", "\x00"}, Cases: []int{math.MaxInt, -1}, A: []impl.FTerm{{}, {K: 500}}},
	}
	for _, why := range sortedKeys(terms) {
		term := terms[why]
		progs := map[string]impl.Prog{
			"Main": progOf(term), "a Fun": progOf(ftNum(1), ftFun(1, "x", term)), "each": progOf(term, ftFun(1, "x", term), ftFun(2, "x", term, "x", "y"), ftFun(1, "x", ftMake(1))),
		}
		for _, where := range sortedKeys(progs) {
			p := progs[where]
			nothingPruned(t, why+" in "+where, p)
			asItIs(t, why+" in "+where, p, impl.Prune(p))
		}
	}
	p := progOf(ftNum(1), make([]impl.Fun, 100000)...)
	nothingPruned(t, "many Funs", p)
	asItIs(t, "many Funs", p, impl.Prune(p))
	p = progOf(ftNum(1), slices.Repeat([]impl.Fun{ftFun(3, "x", ftMake(3, many...), many...)}, 1000)...)
	nothingPruned(t, "one Fun at many places", p)
	asItIs(t, "one Fun at many places", p, impl.Prune(p))
}

// asItIs fails when the answer is not p, or has a list of p's.
func asItIs(t *testing.T, why string, p, got impl.Prog) {
	t.Helper()
	if !reflect.DeepEqual(got, p) {
		t.Errorf("%s: it is another one", why)
	}
	lists := progLists(p)
	for place := range progLists(got) {
		if lists[place] > 0 {
			t.Errorf("%s: it shares a list", why)
			return
		}
	}
}

// Great as it may be, what has no list at many places comes back without one; so do a few such lists beside it.
func TestPruneOfGreatWrongProgs(t *testing.T) {
	shared, names, lams := []impl.FTerm{ftNum(1), ftNum(2)}, []string{"x", "y"}, []int{1, 2}
	few := func() impl.FTerm {
		return impl.FTerm{K: impl.FkCall, L: names, Cases: lams, A: shared}
	}
	wide := ftOf(99, slices.Repeat([]impl.FTerm{few()}, 500)...)
	for range 70000 {
		wide.A = append(wide.A, impl.FTerm{K: 3, L: []string{"a", "b"}, Cases: []int{4}, A: []impl.FTerm{ftNum(3)}})
	}
	wide.A = append(wide.A, slices.Repeat([]impl.FTerm{few()}, 500)...)
	p := progOf(wide, ftFun(1, "x", few(), names...), ftFun(2, "x", few(), names...))
	got := impl.Prune(p)
	asItIs(t, "great", p, got)
	ownPlaces(t, "great", progPlaces(got))
}

// pruneArguments are Progs of all sorts, right and wrong, of which each can be gone through.
func pruneArguments() []impl.Prog {
	all := append(defunArguments(), prunableProgs(200)...)
	for i, p := range prunableProgs(120) {
		nodes := progNodes(&p)
		keys := sortedKeys(spoiling())
		spoiling()[keys[i%len(keys)]](nodes[i*5%len(nodes)])
		all = append(all, p)
	}
	return append(all, progOf(ftShared(9, ftMake(1, "x"))), progOf(ftCall(ftMake(1, "a"), ftNum(2), 1, 2, 3)), impl.Prog{Funs: []impl.Fun{}, Main: impl.FTerm{K: impl.TmNil, L: []string{}, Cases: []int{}, A: []impl.FTerm{}}})
}

func TestPruneArgumentsStay(t *testing.T) {
	t.Parallel()
	for _, p := range pruneArguments() {
		roomy := roomyProg(p)
		kept := fullProg(roomy)
		for _, lam := range []int{-1, 0, 3, 7, 149, 150} {
			spoilInts(impl.Needs(roomy, lam))
		}
		spoilInts(impl.Kept(roomy))
		impl.Singles(roomy)
		pruned := impl.Prune(roomy)
		if !reflect.DeepEqual(fullProg(roomy), kept) {
			t.Fatal("an argument was written to", p)
		}
		// what is written into an answer is not seen in the argument
		for _, place := range progPlaces(pruned) {
			switch place := place.(type) {
			case *impl.FTerm:
				*place = impl.FTerm{K: 50}
			case *impl.Fun:
				*place = impl.Fun{Lam: 500}
			case *string:
				*place = "spoilt"
			case *int:
				*place = 500
			default:
				t.Fatalf("the test's own: %T", place)
			}
		}
		if !reflect.DeepEqual(fullProg(roomy), kept) {
			t.Fatal("an answer is in the argument's memory", p)
		}
	}
}

func spoilInts(list []int) {
	list = list[:cap(list)]
	for i := range list {
		list[i] = 500
	}
}

// What lies behind a list's length is not there; it is not handed out, either.
func TestPruneSpareRoomIsNotRead(t *testing.T) {
	t.Parallel()
	for _, p := range pruneArguments() {
		roomy := roomyProg(p)
		got := impl.Prune(roomy)
		if !equalProgs(got, impl.Prune(p)) || !slices.Equal(impl.Kept(roomy), impl.Kept(p)) || impl.Singles(roomy) != impl.Singles(p) {
			t.Error(plainShownProg(p))
		}
		for _, lam := range append(lamsOf(p), -1, 0, 3, 7, 149) {
			if !slices.Equal(impl.Needs(roomy, lam), impl.Needs(p, lam)) {
				t.Error(lam, plainShownProg(p))
			}
		}
		if told := fmt.Sprint(fullProg(got)); strings.Contains(told, "Spare") || strings.Contains(told, "spare") {
			t.Error("spare room is handed out", plainShownProg(p))
		}
	}
	// lists that lie in the room of others
	lams := []int{3, 7, 9}
	parts := []impl.FTerm{ftMake(7), ftNum(1), ftMake(3)}
	p := progOf(impl.FTerm{K: impl.FkCall, Cases: lams[:2], A: parts[:2]}, ftFun(3, "x", ftMake(9)), ftFun(7, "x", impl.FTerm{K: impl.FkCall, Cases: lams[:1], A: parts[:2]}), ftFun(9, "x", ftMake(3)))
	if got := asPlainPruned(t, p); !slices.Equal(lamsOf(got), []int{7}) || !slices.Equal(lams, []int{3, 7, 9}) || parts[2].N != 3 {
		t.Error(plainProgText(got), lams, parts)
	}
	// Funs behind the length of Funs are none
	funs := []impl.Fun{ftFun(1, "x", ftNum(1)), ftFun(2, "x", ftMake(1))}
	p = impl.Prog{Funs: funs[:1], Main: ftMake(1)}
	if got := asPlainPruned(t, p); len(got.Funs) != 1 || len(impl.Needs(p, 2)) > 0 {
		t.Error(plainProgText(got))
	}
	p.Main = ftMake(2)
	notPruned(t, "a Fun behind the length", p)
}

// plainShownProg tells a Prog, be it right or not.
func plainShownProg(p impl.Prog) string { return fmt.Sprintf("%.2000v", fmt.Sprint(p)) }

func TestPruneAnswersAreNewMemory(t *testing.T) {
	t.Parallel()
	all := pruneArguments()
	// one list at many places, in what is right and what is not
	names, outer, cases, parts := []string{"x", "x"}, []string{"a", "x"}, []int{1, 2, 4}, []impl.FTerm{ftMake(4, "x", "x"), ftVar("x")}
	made := impl.FTerm{K: impl.FkMake, N: 4, L: names}
	call := impl.FTerm{K: impl.FkCall, Cases: cases, A: []impl.FTerm{made, made}}
	other := impl.FTerm{K: impl.FkCall, Cases: cases, A: parts}
	body := ftOf(impl.TmPair, call, ftOf(impl.TmPair, other, other))
	right := progOf(ftLet("x", ftNum(1), body), impl.Fun{Lam: 1, L: outer, S: "y", Body: body}, impl.Fun{Lam: 2, L: outer, S: "y", Body: other}, impl.Fun{Lam: 4, L: outer, S: "y", Body: ftOf(impl.TmPair, body, call)})
	progIs(t, "shared", right, "")
	if got := asPlainPruned(t, right); !slices.Equal(lamsOf(got), []int{4}) {
		t.Error("the test's own", plainProgText(got))
	}
	all = append(all, right)
	for _, change := range []func(*impl.Prog){
		func(p *impl.Prog) { p.Funs[0].Lam = 2 }, func(p *impl.Prog) { p.Funs[1].S = "" }, func(p *impl.Prog) { p.Main.N = 1 }, func(p *impl.Prog) { p.Main.Cases = cases }, func(p *impl.Prog) { p.Main = ftShared(7, p.Main) }, func(p *impl.Prog) { p.Funs = slices.Repeat(p.Funs, 30) },
	} {
		wrong := right
		wrong.Funs = slices.Clone(right.Funs)
		change(&wrong)
		notPruned(t, "shared", wrong)
		all = append(all, wrong)
	}
	for _, p := range all {
		roomy := roomyProg(p)
		for _, argument := range []impl.Prog{roomy, p} {
			answers := slices.Concat(progPlaces(impl.Prune(argument)), progPlaces(impl.Prune(argument)), intPlaces(impl.Kept(argument)), intPlaces(impl.Kept(argument)))
			for _, lam := range append(lamsOf(p), -1, -1) {
				answers = append(answers, intPlaces(impl.Needs(argument, lam))...)
			}
			ownPlaces(t, plainShownProg(p), answers, progPlaces(argument))
		}
	}
	if !slices.Equal(names, []string{"x", "x"}) || !slices.Equal(cases, []int{1, 2, 4}) || len(parts) != 2 || parts[1].S != "x" {
		t.Error("an argument was written to", names, cases, parts)
	}
}

// Nothing is kept from one call to another, neither of what is right nor of what is not.
func TestPruneKeepsNothing(t *testing.T) {
	all := pruneArguments()
	told := func(p impl.Prog) string {
		s := fmt.Sprint(impl.Kept(p), impl.Singles(p), evenProg(impl.Prune(p)))
		for _, lam := range append(lamsOf(p), -1) {
			s += fmt.Sprint(impl.Needs(p, lam))
		}
		return s
	}
	var first []string
	for _, p := range all {
		first = append(first, told(p))
	}
	for i, p := range slices.Backward(all) {
		impl.Prune(all[len(all)-1-i])
		impl.Kept(all[len(all)-1-i])
		impl.Needs(impl.Prog{}, -1)
		if told(p) != first[i] {
			t.Error(plainShownProg(p))
		}
	}
}

// Many at once answer as one after the other.
func TestPruneAtOnce(t *testing.T) {
	all := prunableProgs(300)
	for worker := range 4 {
		t.Run(strconv.Itoa(worker), func(t *testing.T) {
			t.Parallel()
			for i := range all {
				p := all[(i*7+worker*75)%len(all)]
				if !equalProgs(impl.Prune(p), plainPrune(p)) || !slices.Equal(impl.Kept(p), plainKept(p)) {
					t.Error(plainProgText(p))
				}
			}
		})
	}
}
