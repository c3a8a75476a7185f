package tests

import (
	"fmt"
	"math"
	"math/rand"
	"reflect"
	"slices"
	"strings"
	"testing"

	"loop.example/g00187/impl"
)

// Each Op: what it reads and writes, and where it goes on without an OpTry, and within one.
func TestEdgesOfEachOp(t *testing.T) {
	met := map[int]bool{}
	for text, told := range map[string]struct {
		reads         string
		writes        int
		nexts, raises string
	}{
		"num 1 5": {"", 1, "4", "4"}, "bool 1 1": {"", 1, "4", "4"}, "nil 1": {"", 1, "4", "4"}, "move 1 2": {"2", 1, "4", "4"},
		"add 1 2 3": {"2 3", 1, "4", "4 8"}, "sub 1 2 3": {"2 3", 1, "4", "4 8"}, "mul 1 2 3": {"2 3", 1, "4", "4 8"}, "less 1 2 3": {"2 3", 1, "4", "4 8"}, "same 1 2 3": {"2 3", 1, "4", "4 8"},
		"pair 1 2 3": {"2 3", 1, "4", "4"}, "cons 1 2 3": {"2 3", 1, "4", "4"}, "make 1 2": {"", 1, "4", "4"}, "make 1 3 2 4": {"2 4", 1, "4", "4"}, "first 1 2": {"2", 1, "4", "4 8"}, "second 1 2": {"2", 1, "4", "4 8"},
		"ifnot 2 1": {"2", -1, "1 4", "1 4 8"}, "ifnil 2 1": {"2", -1, "1 4", "1 4 8"}, "ifnot 2 6": {"2", -1, "4 6", "4 6 8"}, "ifnil 2 9": {"2", -1, "4 9", "4 8 9"}, "jump 1": {"", -1, "1", "1"}, "jump 9": {"", -1, "9", "9"},
		"call 1 2 3": {"2 3", 1, "4", "4 8"}, "call 1 2 3 0 4": {"2 3", 1, "4", "4 8"}, "ret 2": {"2", -1, "", ""}, "raise 2": {"2", -1, "", "8"}, "try 1 1": {"", -1, "4", "4"}, "end": {"", -1, "4", "4"},
	} {
		i := toldIns(text)
		met[i.Op] = true
		readsAndWrites(t, i, toldNumbers(told.reads), told.writes)
		p := toldPiece("2 5: num 4 1; num 4 2; num 4 3; end; num 4 4; num 4 5; num 4 6; num 4 7; num 4 8; ret 4")
		p.Ins[3] = i
		if got := impl.Nexts(p, 3); !slices.Equal(got, toldNumbers(told.nexts)) || impl.Guard(p, 3) != -1 {
			t.Errorf("%s: goes on at %v, its Guard is %d", text, got, impl.Guard(p, 3))
		}
		edgesAsPlain(t, p)
		p.Ins[1] = toldIns("try 0 8")
		if got := impl.Nexts(p, 3); !slices.Equal(got, toldNumbers(told.raises)) || impl.Guard(p, 3) != 8 {
			t.Errorf("tried %s: goes on at %v, its Guard is %d", text, got, impl.Guard(p, 3))
		}
		asPlainLive(t, p)
		// over again
		p.Ins[2] = toldIns("end")
		if got := impl.Nexts(p, 3); !slices.Equal(got, toldNumbers(told.nexts)) || impl.Guard(p, 3) != -1 {
			t.Errorf("%s behind an end: goes on at %v, its Guard is %d", text, got, impl.Guard(p, 3))
		}
		asPlainLive(t, p)
	}
	if len(met) != 18 {
		t.Error("not each Op", len(met))
	}
}

// What is no Op reads and writes nothing, and goes on at the next one.
func TestEdgesOfNoOp(t *testing.T) {
	for _, op := range []int{0, 19, -1, 20, 77, math.MinInt, math.MaxInt} {
		i := impl.Ins{Op: op, D: 1, X: 2, Y: 3, N: 4, L: []int{5, 6}, To: 0}
		readsAndWrites(t, i, nil, -1)
		p := toldPiece("0 5: try 0 4; end; num 0 1; num 0 2; ret 0")
		p.Ins[1] = i
		if got := impl.Nexts(p, 1); !slices.Equal(got, []int{2}) || impl.Guard(p, 1) != 4 || impl.Guard(p, 2) != 4 {
			t.Error(op, got, impl.Guard(p, 1))
		}
		edgesAsPlain(t, p)
		livedNowhere(t, "no Op", p, "op")
	}
}

func TestReadsOfEachField(t *testing.T) {
	for _, c := range []struct {
		i      impl.Ins
		reads  string
		writes int
	}{
		// X and Y alike, X greater, both 0
		{impl.Ins{Op: impl.OpArith, D: 1, X: 3, Y: 3, N: 1}, "3", 1}, {impl.Ins{Op: impl.OpArith, D: 1, X: 4, Y: 2, N: 1}, "2 4", 1}, {impl.Ins{Op: impl.OpArith, N: 1}, "0", 0}, {impl.Ins{Op: impl.OpPair, D: 2, X: 9, Y: 0}, "0 9", 2}, {impl.Ins{Op: impl.OpPair, D: 9, X: 9, Y: 9}, "9", 9}, {impl.Ins{Op: impl.OpCons, D: 7, X: 399, Y: 398}, "398 399", 7}, {impl.Ins{Op: impl.OpCall, D: 5, X: 6, Y: 5}, "5 6", 5}, {impl.Ins{Op: impl.OpCall, D: 5, X: 5, Y: 5}, "5", 5},
		// the L of OpMake: not ascending, some twice, one, none; X and Y are none of its
		{impl.Ins{Op: impl.OpMake, D: 1, N: 7, L: []int{4, 2, 4}}, "2 4", 1}, {impl.Ins{Op: impl.OpMake, D: 1, L: []int{9, 8, 7, 6, 5}}, "5 6 7 8 9", 1}, {impl.Ins{Op: impl.OpMake, D: 1, L: []int{0, 0, 0}}, "0", 1}, {impl.Ins{Op: impl.OpMake, D: 1, L: []int{3}}, "3", 1}, {impl.Ins{Op: impl.OpMake, D: 1}, "", 1}, {impl.Ins{Op: impl.OpMake, D: 0, L: []int{}}, "", 0}, {impl.Ins{Op: impl.OpMake, D: 3, X: 8, Y: 9, L: []int{1, 0, 1, 2, 0}}, "0 1 2", 3},
		// the L of another Op is none of its registers
		{impl.Ins{Op: impl.OpCall, D: 1, X: 2, Y: 3, L: []int{0, 4, 9}}, "2 3", 1}, {impl.Ins{Op: impl.OpMove, D: 1, X: 2, L: []int{4}}, "2", 1}, {impl.Ins{Op: impl.OpNum, D: 1, L: []int{4}}, "", 1}, {impl.Ins{Op: impl.OpEnd, L: []int{4}}, "", -1}, {impl.Ins{Op: impl.OpRet, L: []int{4}}, "0", -1}, {impl.Ins{Op: impl.OpTry, L: []int{4}}, "", -1}, {impl.Ins{Op: impl.OpJump, L: []int{4}}, "", -1},
		// fields that the Op does not name
		{impl.Ins{Op: impl.OpNum, D: 1, X: 2, Y: 3, To: 4}, "", 1}, {impl.Ins{Op: impl.OpMove, D: 1, X: 2, Y: 3}, "2", 1}, {impl.Ins{Op: impl.OpFirst, D: 1, X: 2, Y: 3}, "2", 1}, {impl.Ins{Op: impl.OpSecond, D: 1, X: 2, Y: 3}, "2", 1}, {impl.Ins{Op: impl.OpIfNot, D: 1, X: 2, Y: 3}, "2", -1}, {impl.Ins{Op: impl.OpIfNil, D: 1, X: 2, Y: 3}, "2", -1}, {impl.Ins{Op: impl.OpRet, D: 1, X: 2, Y: 3}, "2", -1}, {impl.Ins{Op: impl.OpRaise, D: 1, X: 2, Y: 3}, "2", -1}, {impl.Ins{Op: impl.OpJump, D: 1, X: 2, Y: 3}, "", -1}, {impl.Ins{Op: impl.OpEnd, D: 1, X: 2, Y: 3}, "", -1},
		// OpTry writes nothing here
		{impl.Ins{Op: impl.OpTry, D: 1}, "", -1}, {impl.Ins{Op: impl.OpTry}, "", -1}, {impl.Ins{Op: impl.OpTry, D: 5, X: 2, Y: 3, To: 1}, "", -1},
		// what can be no register is told as it stands
		{impl.Ins{Op: impl.OpMove, D: -7, X: -3}, "-3", -7}, {impl.Ins{Op: impl.OpPair, D: 1 << 40, X: 500, Y: -500}, "-500 500", 1 << 40}, {impl.Ins{Op: impl.OpMake, D: 400, L: []int{400, -1, 1000, -1}}, "-1 400 1000", 400}, {impl.Ins{}, "", -1},
	} {
		readsAndWrites(t, c.i, toldNumbers(c.reads), c.writes)
	}
	long := impl.Ins{Op: impl.OpMake, D: 1}
	for n := range 5000 {
		long.L = append(long.L, (n*7)%400)
	}
	readsAndWrites(t, long, plainReads(long), 1)
	if len(plainReads(long)) != 400 {
		t.Error("the test's own")
	}
	if got := impl.Reads(impl.Ins{Op: impl.OpArith, X: math.MaxInt, Y: math.MinInt}); !slices.Equal(got, []int{math.MinInt, math.MaxInt}) {
		t.Error(got)
	}
}

// guarded fails when Guard at each place is not so.
func guarded(t *testing.T, text string, told string) {
	t.Helper()
	p := toldPiece(text)
	want := toldNumbers(told)
	if len(want) != len(p.Ins) {
		t.Errorf("the test's own: %s: %d places, not %d", text, len(p.Ins), len(want))
		return
	}
	for at := range p.Ins {
		if got := impl.Guard(p, at); got != want[at] {
			t.Errorf("%s: Guard at %d is %d, not %d", text, at, got, want[at])
		}
	}
	edgesAsPlain(t, p)
	if len(pieceFaults(p)) == 0 {
		asPlainLive(t, p)
	}
}

func TestGuard(t *testing.T) {
	for text, told := range map[string]string{
		"0 1: ret 0": "-1", "0 1: num 0 1; num 0 2; ret 0": "-1 -1 -1", "0 1: jump 0": "-1",
		// ahead of it, not the one itself; till behind its OpEnd
		"0 2: try 0 3; num 1 1; end; ret 0": "-1 3 3 -1", "0 2: num 1 1; try 0 4; num 1 1; num 1 2; end; num 1 3; ret 0": "-1 -1 4 4 4 -1 -1", "0 2: try 0 1; ret 0": "-1 1", "0 2: try 0 0; ret 0": "-1 0",
		// one within another: both over, the inner one alone, none
		"0 3: try 0 8; try 1 7; add 2 2 2; end; add 2 2 2; end; ret 2; ret 1; ret 0": "-1 8 7 7 8 8 -1 -1 -1", "0 3: try 0 6; try 1 5; end; add 2 2 2; ret 2; ret 1; ret 0": "-1 6 5 6 6 6 6", "0 3: try 0 5; try 1 4; add 2 2 2; ret 2; ret 1; ret 0": "-1 5 4 4 4 4", "0 3: try 0 5; try 1 4; end; end; ret 0; ret 0": "-1 5 4 5 -1 -1",
		"0 1: try 0 7; try 0 6; try 0 5; try 0 4; end; end; end; end; ret 0": "-1 7 6 5 4 5 6 7 -1", "0 1: try 0 7; try 0 6; end; try 0 5; try 0 4; end; end; end; ret 0": "-1 7 6 7 5 4 5 7 -1",
		// one behind another
		"0 1: try 0 6; end; try 0 5; end; try 0 4; end; ret 0": "-1 6 -1 5 -1 4 -1", "0 1: try 0 6; try 0 5; try 0 4; end; try 0 3; ret 0; ret 0": "-1 6 5 4 5 3 3",
		// an OpEnd without an OpTry: ahead of the first, behind the last, between
		"0 1: end; ret 0": "-1 -1", "0 1: end; end; try 0 4; ret 0; ret 0": "-1 -1 -1 4 4", "0 1: try 0 5; end; end; end; ret 0; ret 0": "-1 5 -1 -1 -1 -1", "0 1: try 0 5; end; end; try 0 6; ret 0; ret 0; ret 0": "-1 5 -1 -1 6 6 6", "0 1: end; try 0 5; try 0 6; end; end; end; ret 0": "-1 -1 5 6 5 -1 -1", "0 1: try 0 7; end; end; end; try 0 6; try 0 5; end; ret 0": "-1 7 -1 -1 -1 6 5 6",
		// in the order of the Ins, wherever it jumps
		"0 2: jump 2; try 0 3; num 1 1; ret 1": "-1 -1 3 3", "0 2: try 0 4; jump 3; end; num 1 1; ret 0": "-1 4 4 -1 -1", "0 2: jump 3; num 1 1; ret 1; try 0 1; jump 1": "-1 -1 -1 -1 1", "0 2: try 0 3; ret 1; end; raise 0; ret 0": "-1 3 3 -1 -1", "0 2: try 0 2; raise 1; raise 0; ret 0": "-1 2 2 2",
		// where a raise goes on is ahead, behind, itself, the OpTry
		"0 1: num 0 1; num 0 2; try 0 0; raise 0; try 0 4; raise 0; try 0 6; ret 0": "-1 -1 -1 0 0 4 4 6", "0 1: try 0 1; raise 0; ret 0": "-1 1 1",
	} {
		guarded(t, text, told)
	}
}

// What is not right has Guards and Nexts all the same: To as it stands, and the next one.
func TestEdgesOfWhatIsNotRight(t *testing.T) {
	for text, told := range map[string]struct{ guards, nexts string }{
		// To past the end, and below 0
		"0 1: try 0 9; raise 0; ret 0": {"-1 9 9", "1, 9, -"}, "0 1: try 0 3; raise 0; ret 0": {"-1 3 3", "1, 3, -"}, "0 1: try 0 -5; raise 0; ret 0": {"-1 -5 -5", "1, -5, -"}, "0 1: try 0 -1; raise 0; ret 0": {"-1 -1 -1", "1, -, -"}, "0 1: try 0 -1; add 0 0 0; ret 0": {"-1 -1 -1", "1, 2, -"}, "0 1: try 0 -5; ifnot 0 -7; ret 0": {"-1 -5 -5", "1, -7 -5 2, -"},
		"0 1: jump 5; ret 0": {"-1 -1", "5, -"}, "0 1: jump -5; ret 0": {"-1 -1", "-5, -"}, "0 1: jump -1; ret 0": {"-1 -1", "-1, -"}, "0 1: jump 2; ret 0": {"-1 -1", "2, -"}, "0 1: ifnot 0 99; ret 0": {"-1 -1", "1 99, -"}, "0 1: ifnil 0 -3; ret 0": {"-1 -1", "-3 1, -"}, "0 1: ifnil 0 -1; ret 0": {"-1 -1", "-1 1, -"}, "0 1: ret 0; jump 1000001": {"-1 -1", "-, 1000001"},
		// one within another, the inner one of no place
		"0 1: try 0 4; try 0 -1; raise 0; end; raise 0; ret 0": {"-1 4 -1 -1 4 4", "1, 2, -, 4, 4, -"},
		// the last one is neither OpRet nor OpJump
		"0 1: num 0 1": {"-1", "1"}, "0 1: try 0 0; num 0 1": {"-1 0", "1, 2"}, "0 1: try 0 0; add 0 0 0": {"-1 0", "1, 0 2"}, "0 1: try 0 0; end": {"-1 0", "1, 2"}, "0 1: ret 0; try 0 0": {"-1 -1", "-, 2"}, "0 1: try 0 0; raise 0": {"-1 0", "1, 0"}, "0 1: raise 0": {"-1", "-"}, "0 1: ret 0; ifnot 0 0": {"-1 -1", "-, 0 2"}, "0 1: end": {"-1", "1"},
		// registers there are none of
		"0 0: try 7 2; add 9 -8 700; ret -1": {"-1 2 2", "1, 2, -"},
	} {
		p := toldPiece(text)
		guards, nexts := toldNumbers(told.guards), toldLists(told.nexts)
		for at := range p.Ins {
			if got := impl.Guard(p, at); got != guards[at] {
				t.Errorf("%s: Guard at %d is %d, not %d", text, at, got, guards[at])
			}
			if got := impl.Nexts(p, at); !slices.Equal(got, nexts[at]) {
				t.Errorf("%s: Nexts at %d are %v, not %v", text, at, got, nexts[at])
			}
		}
		edgesAsPlain(t, p)
		livedNowhere(t, text, p, strings.Join(pieceFaults(p), ", "))
	}
	// more Ins and registers than are right
	long := impl.Piece{In: -1, Regs: 1000, Ins: slices.Repeat(toldList("try 0 700; add 999 0 1; end"), 400)}
	if impl.Guard(long, 1198) != 700 || impl.Guard(long, 1199) != 700 || impl.Guard(long, 1197) != -1 || !slices.Equal(impl.Nexts(long, 1198), []int{700, 1199}) || !slices.Equal(impl.Nexts(long, 1199), []int{1200}) {
		t.Error(impl.Guard(long, 1198), impl.Nexts(long, 1198), impl.Nexts(long, 1199))
	}
	deep := impl.Piece{Regs: 1, Ins: slices.Concat(slices.Repeat(toldList("try 0 1"), 20000), slices.Repeat(toldList("end"), 19999), toldList("raise 0"))}
	deep.Ins[0].To = 5
	if impl.Guard(deep, 39999) != 5 || impl.Guard(deep, 39998) != 1 || impl.Guard(deep, 20000) != 1 || !slices.Equal(impl.Nexts(deep, 39999), []int{5}) {
		t.Error(impl.Guard(deep, 39999), impl.Guard(deep, 39998))
	}
}

// There is no i-th.
func TestEdgesOfNoPlace(t *testing.T) {
	tried := toldPiece("0 1: try 0 0; raise 0; jump 0")
	for _, p := range []impl.Piece{{}, {Regs: 1, Ins: []impl.Ins{}}, toldPiece("0 1:"), toldPiece("0 1: ret 0"), toldPiece("0 1: jump 0"), tried} {
		for _, i := range []int{math.MinInt, -1000, -2, -1, len(p.Ins), len(p.Ins) + 1, 600, math.MaxInt} {
			if got := impl.Guard(p, i); got != -1 {
				t.Errorf("%s: Guard at %d is %d", pieceText(p), i, got)
			}
			if got := impl.Nexts(p, i); len(got) != 0 {
				t.Errorf("%s: Nexts at %d are %v", pieceText(p), i, got)
			}
		}
	}
	// the first, and the last
	if impl.Guard(tried, 0) != -1 || impl.Guard(tried, 2) != 0 || !slices.Equal(impl.Nexts(tried, 0), []int{1}) || !slices.Equal(impl.Nexts(tried, 2), []int{0}) {
		t.Error(impl.Guard(tried, 0), impl.Guard(tried, 2))
	}
	livedNowhere(t, "zero", impl.Piece{}, "no ins")
}

func TestNexts(t *testing.T) {
	for text, told := range map[string]string{
		"0 1: num 0 1; ret 0": "1, -", "0 1: jump 0": "0", "0 1: jump 1; ret 0": "1, -", "0 1: jump 2; ret 0; jump 1": "2, -, 1",
		// To and the next one: each once, ascending
		"0 1: ifnot 0 1; ret 0": "1, -", "0 1: ifnil 0 0; ret 0": "0 1, -", "0 1: num 0 1; ifnot 0 0; ifnil 0 3; ret 0": "1, 0 2, 3, -", "0 1: ifnot 0 3; ret 0; ret 0; ret 0": "1 3, -, -, -",
		// the Guard ahead, between, behind; the same as the others
		"0 1: try 0 0; ifnot 0 3; ret 0; ret 0": "1, 0 2 3, -, -", "0 1: try 0 3; ifnot 0 4; ret 0; ret 0; ret 0": "1, 2 3 4, -, -, -", "0 1: try 0 4; ifnot 0 3; ret 0; ret 0; ret 0": "1, 2 3 4, -, -, -", "0 1: try 0 3; ifnot 0 3; ret 0; ret 0": "1, 2 3, -, -", "0 1: try 0 2; ifnot 0 3; ret 0; ret 0": "1, 2 3, -, -", "0 1: try 0 2; ifnot 0 2; ret 0": "1, 2, -", "0 1: try 0 1; ifnot 0 1; ret 0": "1, 1 2, -", "0 1: try 0 2; add 0 0 0; ret 0": "1, 2, -", "0 1: try 0 1; add 0 0 0; ret 0": "1, 1 2, -", "0 1: try 0 0; call 0 0 0; ret 0": "1, 0 2, -",
		// OpRaise has its Guard alone
		"0 1: raise 0; ret 0": "-, -", "0 1: try 0 2; raise 0; ret 0": "1, 2, -", "0 1: try 0 0; raise 0; ret 0": "1, 0, -", "0 1: try 0 1; raise 0; ret 0": "1, 1, -", "0 1: try 0 3; end; raise 0; ret 0": "1, 2, -, -",
		// what does not raise has none
		"0 1: try 0 0; move 0 0; pair 0 0 0; cons 0 0 0; make 0 9; num 0 1; bool 0 1; nil 0; try 0 0; end; jump 11; ret 0": "1, 2, 3, 4, 5, 6, 7, 8, 9, 10, 11, -",
		// an OpTry goes on at the next one alone, wherever its To is
		"0 1: try 0 2; try 0 0; try 0 1; ret 0": "1, 2, 3, -", "0 1: try 0 1; ret 0": "1, -",
	} {
		p := toldPiece(text)
		want := toldLists(told)
		for at := range p.Ins {
			if got := impl.Nexts(p, at); !slices.Equal(got, want[at]) {
				t.Errorf("%s: Nexts at %d are %v, not %v", text, at, got, want[at])
			}
		}
		asPlainLive(t, p)
	}
}

// livedAll fails when what lives is not so: a Piece as toldPiece reads it, and lists as toldLists does.
func livedAll(t *testing.T, cases map[string]string) {
	t.Helper()
	for text, told := range cases {
		p, want := toldPiece(text), toldLists(told)
		if own := asPlainLive(t, p); !sameLists(own, want) {
			t.Errorf("the test's own: %s: %v, not %v", text, own, want)
		}
		livesTo(t, p, want)
		oneLess(t, p, want)
		oneMore(t, p, want)
	}
}

func TestLiveOfStraightCode(t *testing.T) {
	livedAll(t, map[string]string{
		"0 1: num 0 5; ret 0": "-, 0", "2 3: add 2 0 1; ret 2": "0 1, 2", "2 2: ret 0": "0", "2 2: ret 1": "1", "0 1: ret 0": "0", "3 3: num 0 1; move 1 0; ret 1": "-, 0, 1", "1 2: bool 1 1; pair 1 0 1; ret 1": "0, 0 1, 1", "1 2: nil 1; cons 1 0 1; ret 1": "0, 0 1, 1",
		// what is written is what is read; twice; never read
		"1 1: add 0 0 0; ret 0": "0, 0", "1 1: move 0 0; ret 0": "0, 0", "0 1: num 0 1; num 0 2; ret 0": "-, -, 0", "1 2: num 1 5; ret 0": "0, 0", "2 3: add 2 0 1; ret 0": "0 1, 0", "1 2: move 1 0; move 0 1; ret 0": "0, 1, 0",
		// records, parts, calls
		"3 5: pair 3 0 1; cons 4 3 2; make 0 7 4 1 4; ret 0": "0 1 2, 1 2 3, 1 4, 0", "1 3: first 1 0; second 2 0; pair 0 1 2; ret 0": "0, 0 1, 1 2, 0", "2 4: call 2 0 1 5 6; call 3 0 2; add 2 2 3; ret 2": "0 1, 0 2, 2 3, 2", "2 2: call 0 0 1; ret 0": "0 1, 0", "2 3: make 2 9; call 0 2 1 9; ret 0": "1, 1 2, 0", "3 3: make 0 9 2 1 2; ret 0": "1 2, 0",
		// behind what goes on nowhere
		"1 2: ret 0; move 1 0; ret 1": "0, 0, 1", "2 3: raise 0; num 2 0; pair 2 1 2; ret 2": "0, 1, 1 2, 2", "2 2: ret 0; ret 1": "0, 1",
		// OpTry and OpEnd by themselves
		"1 2: try 1 1; ret 0": "0, 0", "1 1: end; end; ret 0": "0, 0, 0", "1 2: try 1 2; end; ret 0": "0, 0, 0",
	})
}

func TestLiveOfJumps(t *testing.T) {
	livedAll(t, map[string]string{
		// ahead and back
		"1 2: jump 2; num 0 5; ret 0": "0, -, 0", "1 2: jump 2; ret 0; jump 1": "0, 0, 0", "1 3: jump 3; move 1 0; ret 1; num 0 2; jump 1": "-, 0, 1, -, 0", "1 2: jump 1; jump 2; jump 3; ret 0": "0, 0, 0, 0",
		// without an end
		"1 1: jump 0": "-", "2 2: add 0 0 1; jump 0": "0 1, 0 1", "1 2: num 1 1; jump 0": "-, -", "2 3: move 0 1; move 1 0; jump 0": "1, 0, 1", "2 2: jump 1; jump 0": "-, -",
		// an if, a case
		"1 4: ifnot 0 4; num 2 1; move 1 2; jump 6; num 3 2; move 1 3; ret 1": "0, -, 2, 1, -, 3, 1", "3 4: ifnot 0 3; move 3 1; jump 4; move 3 2; ret 3": "0 1 2, 1, 3, 2, 3", "2 5: ifnil 0 5; first 3 0; second 4 0; cons 2 3 4; jump 6; move 2 1; ret 2": "0 1, 0, 0 3, 3 4, 2, 1, 2", "2 2: ifnot 0 0; ret 1": "0 1, 1", "2 2: ifnot 0 1; ret 1": "0 1, 1",
		// several jumps to one place, and one over the other
		"4 4: ifnot 0 4; ifnil 1 5; ifnot 2 4; jump 5; ret 3; ret 0": "0 1 2 3, 0 1 2 3, 0 2 3, 0, 3, 0",
		// loops
		"1 5: num 1 0; num 2 1; less 3 0 2; ifnot 3 5; ret 1; add 1 1 0; sub 0 0 2; jump 2": "0, 0 1, 0 1 2, 0 1 2 3, 1, 0 1 2, 0 1 2, 0 1 2", "4 4: ifnot 3 5; move 0 1; move 1 2; move 2 3; jump 0; ret 0": "0 1 2 3, 1 2 3, 0 2 3, 0 1 3, 0 1 2 3, 0",
		// what is read in the next turn alone
		"2 3: ifnot 0 4; num 2 1; move 0 1; jump 0; ret 0": "0 1, 1, 1, 0 1, 0", "2 3: ifnot 0 3; move 0 2; jump 0; num 2 5; jump 1": "0 2, 2, 0 2, -, 2",
		// a loop within a loop: the inner one reads 2, the outer one 1
		"3 4: ifnot 0 6; ifnot 0 4; add 2 2 2; jump 1; add 1 1 1; jump 0; ret 1": "0 1 2, 0 1 2, 0 1 2, 0 1 2, 0 1 2, 0 1 2, 1",
		// into the midst of a loop
		"3 3: jump 3; add 1 1 1; ifnot 0 5; sub 1 1 2; jump 1; ret 1": "0 1 2, 0 1 2, 0 1 2, 0 1 2, 0 1 2, 1",
	})
}

// What a raise leaves.
func TestLiveOfRaises(t *testing.T) {
	livedAll(t, map[string]string{
		"2 5: try 2 6; add 3 0 1; end; move 4 3; jump 7; num 1 1; move 4 2; ret 4": "0 1, 0 1, 3, 3, 4, 2, 2, 4",
		// what is read only where a raise goes on
		"2 4: try 2 3; add 3 0 0; ret 3; pair 3 1 2; ret 3": "0 1, 0 1, 3, 1 2, 3", "2 3: try 2 3; raise 0; ret 0; pair 0 1 2; ret 0": "0 1, 0 1, 0, 1 2, 0", "2 3: try 2 3; first 0 0; ret 0; ret 1": "0 1, 0 1, 0, 1", "2 3: try 2 3; second 0 0; ret 0; ret 1": "0 1, 0 1, 0, 1", "2 3: try 2 3; ifnot 0 2; ret 0; ret 1": "0 1, 0 1, 0, 1", "2 3: try 2 3; ifnil 0 2; ret 0; ret 1": "0 1, 0 1, 0, 1", "2 3: try 2 3; call 0 0 0; ret 0; ret 1": "0 1, 0 1, 0, 1",
		// what does not raise leaves nothing there
		"2 3: try 2 3; move 0 0; ret 0; ret 1": "0, 0, 0, 1", "2 3: try 2 3; pair 0 0 0; ret 0; ret 1": "0, 0, 0, 1", "2 3: try 2 3; cons 0 0 0; ret 0; ret 1": "0, 0, 0, 1", "2 3: try 2 3; make 0 9 0; ret 0; ret 1": "0, 0, 0, 1", "2 3: try 2 3; num 0 1; ret 0; ret 1": "-, -, 0, 1", "2 3: try 2 3; jump 2; ret 0; ret 1": "0, 0, 0, 1", "2 3: try 2 3; end; ret 0; ret 1": "0, 0, 0, 1", "2 3: try 2 3; ret 0; ret 0; ret 1": "0, 0, 0, 1",
		// what it would write lives ahead of it all the same
		"2 3: try 2 3; add 0 1 1; ret 0; pair 0 0 2; ret 0": "0 1, 0 1, 0, 0 2, 0", "2 3: try 2 3; call 0 1 1; ret 0; ret 0": "0 1, 0 1, 0, 0", "2 3: try 2 3; first 0 1; ret 1; ret 0": "0 1, 0 1, 1, 0", "2 3: try 2 3; second 0 1; ret 0; ret 0": "0 1, 0 1, 0, 0", "2 3: try 2 3; move 0 1; ret 0; pair 0 0 2; ret 0": "1, 1, 0, 0 2, 0",
		// the D of the OpTry does not; but by another way, or for what it reads
		"2 2: try 0 3; add 0 1 1; ret 0; ret 0": "1, 1, 0, 0", "2 3: try 0 3; add 2 1 1; ret 2; ret 0": "1, 1, 2, 0", "2 3: try 0 3; add 2 1 1; ret 0; ret 0": "0 1, 0 1, 0, 0", "2 3: try 0 3; add 2 0 1; ret 2; ret 0": "0 1, 0 1, 2, 0", "1 2: try 1 2; raise 0; raise 1; ret 0": "0, 0, 1, 0",
		// ahead of an OpTry its D lives where the next one wants it
		"1 2: try 0 2; ret 0; ret 1": "0, 0, 1", "2 2: try 0 2; raise 1; ret 0": "1, 1, 0", "2 2: try 0 2; raise 0; ret 0": "0, 0, 0",
	})
}

func TestLiveOfTriesWithinTries(t *testing.T) {
	livedAll(t, map[string]string{
		// both over; the inner one; none
		"4 6: try 4 6; try 5 7; end; end; add 0 0 1; ret 0; ret 2; ret 3": "0 1, 0 1, 0 1, 0 1, 0 1, 0, 2, 3", "4 6: try 4 8; try 5 7; add 0 0 1; end; add 0 0 1; end; ret 0; ret 2; ret 3": "0 1 2 3, 0 1 2 3, 0 1 2 3, 0 1 3, 0 1 3, 0, 0, 2, 3", "4 6: try 4 5; try 5 4; add 0 0 1; ret 0; ret 2; ret 3": "0 1 2, 0 1 2, 0 1 2, 0, 2, 3", "4 6: try 4 5; try 5 6; end; add 0 0 1; ret 0; ret 2; ret 3": "0 1 2, 0 1 2, 0 1 2, 0 1 2, 0, 2, 3",
		// the D of the inner one, or of the outer one, as it is the Guard
		"2 3: try 0 5; try 1 4; add 2 2 2; ret 2; pair 2 0 1; ret 2": "0 2, 0 2, 0 2, 2, 0 1, 2", "2 3: try 0 5; try 1 4; end; add 2 2 2; ret 2; pair 2 0 1; ret 2": "1 2, 1 2, 1 2, 1 2, 2, 0 1, 2",
		// an OpEnd without an OpTry
		"2 2: end; add 0 0 1; ret 0": "0 1, 0 1, 0", "3 4: end; try 3 4; add 0 0 1; ret 0; ret 2": "0 1 2, 0 1 2, 0 1 2, 0, 2", "3 4: try 3 5; end; end; add 0 0 1; ret 0; ret 2": "0 1, 0 1, 0 1, 0 1, 0, 2", "3 4: try 3 6; end; end; try 3 6; add 0 0 1; ret 0; ret 2": "0 1 2, 0 1 2, 0 1 2, 0 1 2, 0 1 2, 0, 2",
		// a raise in what is done, within another OpTry and within none
		"3 5: try 3 8; try 4 5; add 0 0 0; end; jump 6; add 0 4 1; end; ret 0; pair 0 2 3; ret 0": "0 1 2, 0 1 2, 0 1 2, 0, 0, 1 2 4, 0, 0, 2 3, 0", "3 4: try 3 4; add 0 0 1; end; ret 0; add 0 3 2; ret 0": "0 1 2, 0 1 2, 0, 0, 2 3, 0",
		// a raise in what is done that is not behind an OpEnd: its Guard is what is done itself
		"3 4: try 3 3; add 0 0 1; ret 0; add 0 3 2; ret 0": "0 1 2, 0 1 2, 0, 2 3, 0",
		// a Guard at a place ahead of the instruction; the OpTry itself; what is ahead of that
		"2 3: jump 3; pair 0 1 2; ret 0; try 2 1; add 0 0 0; ret 0": "0 1, 1 2, 0, 0 1, 0 1, 0", "3 3: try 1 0; sub 0 0 2; ret 0": "0 2, 0 2, 0", "3 3: try 1 0; sub 0 1 2; ret 0": "1 2, 1 2, 0", "3 4: add 3 1 1; try 1 0; sub 0 0 2; ret 0": "0 1 2, 0 2, 0 2, 0", "3 4: add 3 1 1; try 2 0; sub 0 0 2; ret 0": "0 1 2, 0 1 2, 0 1 2, 0",
		// the To of the Guard is one of the other Nexts: the next one, a To; D is what is written, or not
		"2 3: try 1 2; add 2 0 0; pair 0 1 2; ret 0": "0 1 2, 0 1 2, 1 2, 0", "2 3: try 2 2; add 2 0 0; pair 0 1 2; ret 0": "0 1, 0 1, 1 2, 0", "2 3: try 1 2; add 1 0 0; pair 0 1 2; ret 0": "0 2, 0 2, 1 2, 0", "2 2: try 1 3; ifnot 0 3; ret 0; ret 1": "0 1, 0 1, 0, 1", "2 2: try 1 4; ifnot 0 3; ret 0; ret 0; ret 1": "0, 0, 0, 0, 1", "2 2: try 1 2; ifnot 0 3; ret 1; ret 0": "0 1, 0 1, 1, 0", "2 2: try 1 2; ifnil 0 2; ret 1": "0 1, 0 1, 1", "2 2: try 1 2; raise 0; ret 1": "0, 0, 1",
		// an OpTry whose To is the next one
		"2 2: try 1 1; add 0 0 1; ret 0": "0 1, 0 1, 0", "2 2: try 1 1; ret 1": "1, 1", "2 3: try 1 1; add 2 0 1; ret 2": "0 1, 0 1, 2", "2 3: try 0 1; try 1 2; raise 2; ret 0": "2, 2, 2, 0", "2 2: try 0 1; raise 0; ret 1": "0, 0, 1",
	})
}

// Each Op within an OpTry: what is read where a raise goes on lives ahead of it just where it may raise.
func TestLiveOfEachOpThatIsTried(t *testing.T) {
	raising := []int{impl.OpArith, impl.OpCall, impl.OpRaise, impl.OpFirst, impl.OpSecond, impl.OpIfNot, impl.OpIfNil}
	for _, text := range rightIns() {
		p := toldPiece("4 6: try 5 6; num 3 0; end; num 4 0; num 5 0; ret 3; pair 4 0 5; make 4 9 1 3 4; ret 4")
		p.Ins[1] = toldIns(text)
		if p.Ins[1].To == 1 && p.Ins[1].Op != impl.OpTry {
			p.Ins[1].To = 3
		}
		live := asPlainLive(t, p)
		raises := slices.Contains(raising, p.Ins[1].Op)
		for _, reg := range []int{0, 1} {
			if got := slices.Contains(impl.Live(p)[1], reg); got != raises {
				t.Errorf("%s: %d lives ahead of it: %v", text, reg, got)
			}
		}
		// what it would write is 1, which is read there
		if slices.Contains(live[2], 0) || slices.Contains(live[1], 5) {
			t.Error("the test's own", text, live)
		}
		oneLess(t, p, live)
	}
}

// Pieces of Progs of each kind, lists by hand.
func TestLiveOfLoweredProgs(t *testing.T) {
	for text, told := range map[string]string{
		"main if t n 1 n 2": "-, 0, -, 2, 1, -, 3, 1", "main case h r nil n 1 v h": "-, 0, 0, 0 2, 2, 1, -, 4, 1", "main try e n 1 v e": "-, -, 2, 2, 0, 1, 0",
		"fun 4 0 x v x | main call 1 4 make 4 0 n 8": "-, 0, 0 1, 2", "main let x n 1 let y n 2 pair v y v x": "-, 0, 0 1, 2", "main let x n 1 n 2": "-, -, 1",
		// what is done reads x and e
		"main let x n 1 try e raise n 5 pair v x v e": "-, 0, 0, 0 3, -, 4, 4, 1, 0 2, 5, 1",
		// a try in what is tried: x is read where the outer one goes on, so it lives where that may be
		"main let x n 1 try e try d op + n 2 n 3 v d v x": "-, -, -, -, 5, 5 6, 7, 7, 3, 4, 3, 3, 1, 0, 1", "main let x n 1 try e try d op + n 2 n 3 raise v d v x": "-, 0, 0, 0, 0 5, 0 5 6, 7, 7, 3, 0 4, -, 8, 3, 3, 1, 0, 1",
	} {
		c := plainLower(toldProg(text))
		want := toldLists(told)
		if own := asPlainLive(t, c.Main); !sameLists(own, want) {
			t.Errorf("the test's own: %s: %s: %v, not %v", text, pieceText(c.Main), own, want)
		}
		livesTo(t, c.Main, want)
		oneLess(t, c.Main, want)
	}
}

// Pieces of lowered programs, and Pieces by chance, against the test's own lists.
func TestLiveByChance(t *testing.T) {
	t.Parallel()
	guards, alike, backward, raises := 0, 0, 0, 0
	for _, p := range slices.Concat(piecesOfAll(loweredCodes(t, 600)), piecesOfAll(anyCodes(1500)), triedPieces(4000)) {
		live := asPlainLive(t, p)
		if len(live) != len(p.Ins) {
			t.Error(pieceText(p))
		}
		for _, e := range liveEdges(p) {
			if e.to <= e.from {
				backward++
			}
			if !e.raise {
				continue
			}
			guards++
			if slices.Contains(live[e.to], plainWrites(p.Ins[e.from])) {
				raises++
			}
			if strings.Contains(opGoes[p.Ins[e.from].Op], "n") && e.to == e.from+1 || strings.Contains(opGoes[p.Ins[e.from].Op], "t") && e.to == p.Ins[e.from].To {
				alike++
			}
		}
	}
	if guards < 5000 || alike < 200 || backward < 5000 || raises < 500 {
		t.Error("too few", guards, alike, backward, raises)
	}
}

// One register less than the least, and one more, at each place.
func TestLiveOkOfOneLessAndOneMore(t *testing.T) {
	t.Parallel()
	held, broke := 0, 0
	pieces := slices.Concat(piecesOfAll(anyCodes(100)), triedPieces(400))
	for _, p := range piecesOfAll(loweredCodes(t, 60)) {
		if len(p.Ins) < 30 {
			pieces = append(pieces, p)
		}
	}
	for _, p := range pieces {
		least := plainLive(p)
		livesTo(t, p, least)
		oneLess(t, p, least)
		h, b := oneMore(t, p, least)
		held, broke = held+h, broke+b
	}
	if held < 1000 || broke < 1000 {
		t.Error("too few", held, broke)
	}
}

// Each choice of lists there is, of small Pieces: what all that hold have is what lives.
func TestLiveIsTheLeast(t *testing.T) {
	t.Parallel()
	asked, held := 0, 0
	for _, p := range triedPieces(6000) {
		bits := len(p.Ins) * p.Regs
		if bits > 10 {
			continue
		}
		asked++
		common := 1<<bits - 1
		for choice := range 1 << bits {
			live := make([][]int, len(p.Ins))
			for bit := range bits {
				if choice>>bit&1 == 1 {
					live[bit/p.Regs] = append(live[bit/p.Regs], bit%p.Regs)
				}
			}
			faults := strings.Join(liveFaults(p, live), ", ")
			liveIs(t, "chosen", p, live, faults)
			if faults == "" {
				held++
				common &= choice
			}
		}
		for at, list := range impl.Live(p) {
			for reg := range p.Regs {
				if slices.Contains(list, reg) != (common>>(at*p.Regs+reg)&1 == 1) {
					t.Errorf("%s: lives %v ahead of %d", pieceText(p), list, at)
				}
			}
		}
	}
	if asked < 300 || held < 10000 {
		t.Error("too few", asked, held)
	}
}

// The most registers and instructions there may be.
func TestLiveOfTheGreatest(t *testing.T) {
	t.Parallel()
	var all []int
	for reg := range 400 {
		all = append(all, reg)
	}
	lists := func(n int, list func(at int) []int) [][]int {
		var lists [][]int
		for at := range n {
			lists = append(lists, list(at))
		}
		return lists
	}
	// all registers are written one by one, and then read by one record
	p := impl.Piece{In: 0, Regs: 400}
	for reg := range 400 {
		p.Ins = append(p.Ins, impl.Ins{Op: impl.OpNum, D: reg})
	}
	p.Ins = append(p.Ins, impl.Ins{Op: impl.OpMake, D: 399, L: all}, toldIns("ret 399"))
	want := lists(400, func(at int) []int { return all[:at] })
	want = append(want, all, []int{399})
	asPlainLive(t, p)
	livesTo(t, p, want)
	// each is read 600 times, and none is written
	p = impl.Piece{In: 400, Regs: 400, Ins: append(slices.Repeat([]impl.Ins{{Op: impl.OpMake, D: 0, L: all}}, 599), toldIns("ret 0"))}
	want = lists(600, func(at int) []int { return all })
	want[599] = []int{0}
	asPlainLive(t, p)
	livesTo(t, p, want)
	// 600 that go on one behind the other, from the last to the first
	p = impl.Piece{Regs: 400, Ins: toldList("jump 598")}
	for at := 1; at < 599; at++ {
		to := at - 1
		if at == 1 {
			to = 599
		}
		p.Ins = append(p.Ins, impl.Ins{Op: impl.OpJump, To: to})
	}
	p.Ins = append(p.Ins, toldIns("ret 399"))
	asPlainLive(t, p)
	livesTo(t, p, lists(600, func(int) []int { return []int{399} }))
	// without registers
	p = impl.Piece{Ins: slices.Repeat(toldList("jump 0"), 600)}
	asPlainLive(t, p)
	livesTo(t, p, make([][]int, 600))
	p = toldPiece("0 0: end; jump 0")
	asPlainLive(t, p)
	liveIs(t, "without registers", p, [][]int{{0}, {0}}, "register")
	liveIs(t, "without registers", p, [][]int{{}, nil}, "")
}

// Loops that take as many turns as there are registers till all is told.
func TestLiveOfLoopsOfManyTurns(t *testing.T) {
	t.Parallel()
	for _, regs := range []int{2, 3, 64, 65, 128, 399, 400} {
		// each turn moves all down by one: what is answered at last may have been any of them
		p := impl.Piece{In: regs, Regs: regs, Ins: []impl.Ins{{Op: impl.OpIfNot, X: regs - 1, To: regs + 1}}}
		for reg := range regs - 1 {
			p.Ins = append(p.Ins, impl.Ins{Op: impl.OpMove, D: reg, X: reg + 1})
		}
		p.Ins = append(p.Ins, toldIns("jump 0"), toldIns("ret 0"))
		live := asPlainLive(t, p)
		if len(live[0]) != regs || len(live[1]) != regs-1 {
			t.Error("the test's own", len(live[0]), len(live[1]))
		}
		if got := impl.Live(p); len(got[0]) != regs || len(got[regs]) != regs || len(got[1]) != regs-1 {
			t.Error(regs, len(got[0]), len(got[1]))
		}
		// and up by one, where the last one is answered
		p.Ins[0].X, p.Ins[regs+1].X = 0, regs-1
		for at := 1; at < regs; at++ {
			p.Ins[at] = impl.Ins{Op: impl.OpMove, D: at, X: at - 1}
		}
		asPlainLive(t, p)
	}
	// a raise in each turn, which moves one on
	p := impl.Piece{In: 200, Regs: 201, Ins: toldList("try 200 0; raise 0; ret 0")}
	for reg := range 199 {
		p.Ins = slices.Insert(p.Ins, 1+reg, impl.Ins{Op: impl.OpMove, D: reg, X: reg + 1})
	}
	live := asPlainLive(t, p)
	if len(live[0]) != 199 || len(impl.Live(p)[0]) != 199 {
		t.Error(len(live[0]), len(impl.Live(p)[0]))
	}
	// 199 OpTrys, each within the other, half of which are over again; each goes on at its own place
	p = impl.Piece{In: 1, Regs: 300}
	for n := range 199 {
		p.Ins = append(p.Ins, impl.Ins{Op: impl.OpTry, D: n + 1, To: 400 + n})
	}
	p.Ins = append(p.Ins, slices.Repeat(toldList("add 0 0 0; end"), 100)...)
	p.Ins = append(p.Ins, toldIns("ret 0"))
	for n := range 199 {
		p.Ins = append(p.Ins, impl.Ins{Op: impl.OpPair, D: 0, X: 0, Y: 100 + n})
	}
	p.Ins = append(p.Ins, toldIns("ret 0"))
	if len(p.Ins) != 600 {
		t.Error("the test's own", len(p.Ins))
	}
	asPlainLive(t, p)
}

// Each condition of a right Piece, broken alone: nothing lives, and no lists are right.
func TestLiveOfWhatIsNotRight(t *testing.T) {
	asPlainLive(t, toldPiece(triedText))
	for _, c := range wrongPieces() {
		livedNowhere(t, c.why, c.p, c.faults)
	}
}

// Lams are left aside: whose Piece it is, what a record is of, what is called.
func TestLiveOfAnyLams(t *testing.T) {
	for _, lam := range []int{math.MinInt, -2, -1, 0, 3, 149, 150, math.MaxInt} {
		for in := range 3 {
			p := impl.Piece{Lam: lam, In: in, Regs: 2, Ins: toldList("pair 0 0 1; ret 0")}
			livesTo(t, p, [][]int{{0, 1}, {0}})
		}
		p := toldPiece("3 3: make 0 7 1 1 2; call 0 0 1; ret 0")
		p.Ins[0].N = lam
		p.Ins[1].L = []int{lam}
		livesTo(t, p, toldLists("1 2, 0 1, 0"))
	}
	for _, list := range [][]int{{9, 5}, {5, 5}, {-1, 150, 1000}, {3, 2, 1, 0}} {
		p := toldPiece("2 2: call 0 0 1; ret 0")
		p.Ins[0].L = list
		livesTo(t, p, toldLists("0 1, 0"))
	}
	for _, count := range []int{0, 1, 399, 400, 1000} {
		p := toldPiece("2 2: make 0 3; ret 0")
		p.Ins[0].L = make([]int, count)
		want := [][]int{{0}, {0}}
		if count == 0 {
			want[0] = nil
		}
		livesTo(t, p, want)
	}
}

// Each change of each instruction and each Piece of a Code, held against the test's own.
func TestLiveOfEachChange(t *testing.T) {
	t.Parallel()
	alone := map[string]int{}
	right := 0
	look := func(why string, p impl.Piece) {
		faults := pieceFaults(p)
		if len(faults) == 0 {
			right++
			asPlainLive(t, p)
			return
		}
		edgesAsPlain(t, p)
		livedNowhere(t, why, p, strings.Join(faults, ", "))
		if len(faults) == 1 {
			alone[faults[0]]++
		}
	}
	whole := fullerCode()
	for at, p := range piecesOf(&whole) {
		look("whole", *p)
		for place := range p.Ins {
			for why, change := range insChanges() {
				c := fullerCode()
				p := piecesOf(&c)[at]
				change(&p.Ins[place])
				look(fmt.Sprint(why, " at ", place, " of ", at), *p)
			}
		}
		for why, change := range pieceChanges() {
			c := fullerCode()
			p := piecesOf(&c)[at]
			change(p)
			look(fmt.Sprint(why, " of ", at), *p)
		}
	}
	for _, fault := range []string{"in", "regs", "no ins", "many ins", "last", "op", "field D", "field X", "field Y", "field N", "field T", "field L", "to", "register D", "register X", "register Y", "register L", "number"} {
		if alone[fault] == 0 {
			t.Errorf("%q is never alone", fault)
		}
	}
	if right < 300 {
		t.Error("too few", right)
	}
}

// Lists that are not as many, not ascending, of no registers; and such as break one of the rules alone.
func TestLiveOkOfLists(t *testing.T) {
	p := toldPiece(triedText)
	for told, faults := range map[string]string{
		"0 1, 0 1, 3, 3, 4, 2, 2, 4": "", "0 1 2 3 4, 0 1 2 3 4, 0 1 2 3 4, 0 1 2 3 4, 0 1 2 3 4, 0 1 2 3 4, 0 1 2 3 4, 0 1 2 3 4": "",
		// one more, where it comes from nowhere, and where it must come from somewhere
		"0 1 4, 0 1, 3, 3, 4, 2, 2, 4": "", "0 1, 0 1, 3, 3, 4, 2 3, 2, 4": "", "0 1, 0 1 4, 3, 3, 4, 2, 2, 4": "next", "0 1 4, 0 1 4, 3, 3, 4, 2, 2, 4": "", "0 1, 0 1, 3, 3, 4, 2, 2 3, 4": "next, raise", "0 1, 0 1, 3, 3, 4, 2 3, 2 3, 4": "raise", "0 1 3, 0 1 3, 3, 3, 4, 2 3, 2 3, 4": "", "0 1, 0 1, 0 3, 3, 4, 2, 2, 4": "", "0 1, 0 1, 3 4, 3, 4, 2, 2, 4": "next",
		// one less
		"0, 0 1, 3, 3, 4, 2, 2, 4": "next", "0 1, 0, 3, 3, 4, 2, 2, 4": "reads", "0 1, 1, 3, 3, 4, 2, 2, 4": "reads", "0 1, 0 1, -, 3, 4, 2, 2, 4": "next", "0 1, 0 1, 3, -, 4, 2, 2, 4": "reads", "0 1, 0 1, 3, 3, -, 2, 2, 4": "next", "0 1, 0 1, 3, 3, 4, -, 2, 4": "next", "0 1, 0 1, 3, 3, 4, 2, -, 4": "reads", "0 1, 0 1, 3, 3, 4, 2, 2, -": "reads",
		// not as many
		"0 1, 0 1, 3, 3, 4, 2, 2": "count", "0 1, 0 1, 3, 3, 4, 2, 2, 4, -": "count", "0 1, 0 1, 3, 3, 4, 2, 2, 4, 4": "count", "0 1": "count", "-": "count",
		// not ascending, one twice
		"1 0, 0 1, 3, 3, 4, 2, 2, 4": "order", "0 1, 1 0, 3, 3, 4, 2, 2, 4": "order", "0 1, 0 1, 3, 3, 4, 2, 2, 4 4": "order", "0 0 1, 0 1, 3, 3, 4, 2, 2, 4": "order", "0 1 1, 0 1, 3, 3, 4, 2, 2, 4": "order", "0 1, 0 1, 3, 3 3, 4, 2, 2, 4": "order", "0 1, 0 1, 3, 3, 4, 2 3 2, 2, 4": "order", "0 1 4 3, 0 1, 3, 3, 4, 2, 2, 4": "order",
		// a number that is no register
		"0 1 5, 0 1, 3, 3, 4, 2, 2, 4": "register", "-1 0 1, 0 1, 3, 3, 4, 2, 2, 4": "register", "0 1, 0 1, 3, 3, 4, -1 2, 2, 4": "register", "0 1, 0 1, 3, 3, 4, 2 5, 2, 4": "register", "0 1, 0 1, 3, 3, 4, 2 400, 2, 4": "register", "0 1, 0 1, 3, 3, 4, 2 1000000, 2, 4": "register", "0 1, 0 1, 3, 3, 4, -1000000 2, 2, 4": "register", "0 1, 0 1, 3, 3, 4, 2 448, 2, 4": "register",
		"0 1 5, 0 1 5, 3 5, 3 5, 4 5, 2 5, 2 5, 4 5": "register",
	} {
		liveIs(t, told, p, toldLists(told), faults)
	}
	liveIs(t, "nil", p, nil, "count")
	liveIs(t, "nine", p, make([][]int, 9), "count")
	liveIs(t, "empty ones", p, make([][]int, 8), "reads")
	liveIs(t, "all", p, allRegisters(p), "")
	for _, reg := range []int{math.MinInt, math.MaxInt} {
		live := plainLive(p)
		live[5] = append(live[5], reg)
		slices.Sort(live[5])
		liveIs(t, "far off", p, live, "register")
	}
	// of a raise: all but the D of the OpTry, also what it would write
	p = toldPiece("2 3: try 2 3; add 0 1 1; ret 0; pair 0 0 2; ret 0")
	for told, faults := range map[string]string{"0 1, 0 1, 0, 0 2, 0": "", "1, 1, 0, 0 2, 0": "raise", "0 1, 1, 0, 0 2, 0": "raise", "1, 0 1, 0, 0 2, 0": "next", "0 1 2, 0 1 2, 0, 0 2, 0": "", "0 1, 0 1, 0, 0 1 2, 0 1": "", "0 1, 0 1, 0 2, 0 2, 0": "next"} {
		liveIs(t, told, p, toldLists(told), faults)
	}
	// of two ways to one place
	p = toldPiece("2 3: try 1 2; add 2 0 0; pair 0 1 2; ret 0")
	for told, faults := range map[string]string{"0 1 2, 0 1 2, 1 2, 0": "", "0 1 2, 0 1, 1 2, 0": "raise", "0 1 2, 0 2, 1 2, 0": "next", "0 1 2, 0, 1 2, 0": "next, raise"} {
		liveIs(t, told, p, toldLists(told), faults)
	}
}

// Lists by chance, most of which break something.
func TestLiveOkByChance(t *testing.T) {
	t.Parallel()
	r := rand.New(rand.NewSource(71))
	met := map[string]int{}
	for _, p := range slices.Concat(triedPieces(2500), piecesOfAll(anyCodes(300))) {
		least := plainLive(p)
		for range 8 {
			live := copyLists(least)
			at := r.Intn(len(live))
			switch r.Intn(7) {
			case 0:
				live[at] = append(live[at], r.Intn(p.Regs+2)-1)
			case 1:
				live[at] = append([]int{r.Intn(p.Regs+2) - 1}, live[at]...)
			case 2:
				live = append(live, nil)
			case 3:
				live = live[:len(live)-1]
			case 4:
				slices.Reverse(live[at])
			default:
				// more at several places
				for range 1 + r.Intn(4) {
					at := r.Intn(len(live))
					if reg := r.Intn(p.Regs + 1); reg < p.Regs && !slices.Contains(live[at], reg) {
						live[at] = append(live[at], reg)
						slices.Sort(live[at])
					}
				}
			}
			faults := strings.Join(liveFaults(p, live), ", ")
			met[faults]++
			liveIs(t, "by chance", p, live, faults)
		}
	}
	for _, faults := range []string{"", "count", "order", "register", "next", "raise"} {
		if met[faults] < 30 {
			t.Error("too few", faults, met)
		}
	}
}

// What follows: what does not live may have any value.
func TestWhatDoesNotLiveMayHaveAnyValue(t *testing.T) {
	t.Parallel()
	values, raises, caught, spoilt := 0, 0, 0, 0
	for _, c := range loweredCodes(t, 300) {
		told, count := endsWithAnyDead(t, c, 1500)
		if !told {
			t.Errorf("%s: a raise does not go on at the Guard", codeText(c))
		}
		spoilt += count
		end, w := plainRunCode(c, 1500)
		switch end.End {
		case impl.EndValue:
			values++
		case impl.EndRaise:
			raises++
		}
		if w.caught > 0 {
			caught++
		}
	}
	// code that jumps about, as long as each raise goes on at the Guard
	chance := 0
	for _, c := range anyCodes(3000) {
		if told, _ := endsWithAnyDead(t, c, 200); told {
			chance++
		}
	}
	if values < 300 || raises < 100 || caught < 60 || spoilt < 100000 || chance < 1000 {
		t.Error("too few", values, raises, caught, spoilt, chance)
	}
}

// Registers that are read only where a raise goes on, in code by hand; without any that lives it would end otherwise.
func TestWhatLivesIsRead(t *testing.T) {
	for text, told := range map[string]string{
		"main 4: num 0 5; num 1 1000000; try 2 6; add 0 1 1; end; ret 0; pair 3 0 2; ret 3":                                    "(5,-1)",
		"main 4: num 0 5; bool 1 1; try 0 6; add 3 1 1; end; ret 3; pair 3 0 1; ret 3":                                         "(-2,t)",
		"main 5: num 0 5; num 1 6; try 2 8; try 3 9; end; raise 1; end; ret 0; pair 4 0 2; pair 4 4 0; ret 4":                  "((5,6),5)",
		"main 5: num 0 5; num 1 6; try 2 9; try 3 7; raise 1; end; jump 8; raise 0; end; pair 4 0 2; pair 4 4 1; ret 4":        "((5,5),6)",
		"fun 1 1 1: raise 0; ret 0 | main 5: num 0 5; make 1 1; num 4 8; try 2 7; call 4 1 0 1; end; ret 4; pair 3 4 2; ret 3": "(8,5)",
		"fun 1 2 3: add 2 0 1; ret 2 | main 5: num 0 5; make 1 1 0; num 0 7; call 4 1 0 1; pair 4 4 0; ret 4":                  "(12,7)",
	} {
		c := toldCode(text)
		codeIs(t, text, c, "")
		end, _ := plainRunCode(c, 100)
		if end != ends(told) {
			t.Errorf("the test's own: %s: %v, not %s", text, end, told)
		}
		if right, _ := endsWithAnyDead(t, c, 100); !right {
			t.Errorf("the test's own: %s: a raise does not go on at the Guard", text)
		}
		// one less where it raises: that is read, there or where it goes on
		for at, list := range impl.Live(c.Main) {
			for n := range list {
				less := copyLists(impl.Live(c.Main))
				less[at] = slices.Delete(less[at], n, n+1)
				s := &deadSpoiler{lists: map[int][][]int{-1: less}, with: codeValue{kind: 'n', n: 424242}}
				met := false
				w := &codeWalker{code: c, fuel: 100}
				w.ahead = func(p impl.Piece, place int, regs map[int]*codeValue, open []int) {
					met = met || p.Lam == -1 && place == at
					s.ahead(p, place, regs, open)
				}
				if got := w.run(); met && got == end && raisesAt(c, at) {
					t.Errorf("%s: it ends the same without %d ahead of %d", text, list[n], at)
				}
			}
		}
	}
}

// raisesAt tells whether Main raises at this place: what lives ahead of it for where a raise goes on is read then, and what lives for where it goes on else may not be.
func raisesAt(c impl.Code, at int) bool {
	last, raised := -1, false
	w := &codeWalker{code: c, fuel: 100}
	w.ahead = func(p impl.Piece, place int, _ map[int]*codeValue, _ []int) {
		if p.Lam != -1 {
			return
		}
		if last == at && place == plainGuard(p, at) && place != at+1 {
			raised = true
		}
		last = place
	}
	w.run()
	return raised
}

// liveArguments are Pieces of all sorts, right and wrong.
func liveArguments() []impl.Piece {
	all := append(triedPieces(300), impl.Piece{}, toldPiece("4 6: try 4 8; try 5 7; add 0 0 1; end; add 0 0 1; end; ret 0; ret 2; ret 3"))
	for _, c := range codeArguments() {
		for _, p := range piecesOf(&c) {
			all = append(all, *p)
		}
	}
	return all
}

// listsFor are lists of all sorts for a Piece, right and wrong.
func listsFor(p impl.Piece) [][][]int {
	least := impl.Live(p)
	all := [][][]int{nil, least, allRegisters(p), make([][]int, len(p.Ins)), append(copyLists(least), []int{0})}
	if len(least) > 0 {
		turned := copyLists(least)
		slices.Reverse(turned[0])
		less := copyLists(least)
		less[len(less)-1] = nil
		all = append(all, turned, less, least[1:])
	}
	return all
}

func fullLists(lists [][]int) [][]int {
	var full [][]int
	for _, list := range lists[:cap(lists)] {
		full = append(full, slices.Clone(list[:cap(list)]))
	}
	return full
}

func TestLiveArgumentsStay(t *testing.T) {
	t.Parallel()
	for _, p := range liveArguments() {
		roomy := roomyPiece(p)
		kept := fullPiece(roomy)
		asked := func(what string) {
			if !reflect.DeepEqual(fullPiece(roomy), kept) {
				t.Fatal(what, "an argument was written to", pieceText(p))
			}
		}
		for at := -1; at <= min(len(p.Ins), 50); at++ {
			impl.Guard(roomy, at)
			impl.Nexts(roomy, at)
		}
		asked("Guard, Nexts")
		for _, i := range roomy.Ins {
			impl.Reads(i)
			impl.Writes(i)
		}
		asked("Reads, Writes")
		impl.Live(roomy)
		asked("Live")
		for _, live := range listsFor(p) {
			lists := roomyLists(live)
			keptLists := fullLists(lists)
			impl.LiveOk(roomy, lists)
			if !reflect.DeepEqual(fullLists(lists), keptLists) {
				t.Fatal("lists were written to", live)
			}
		}
		asked("LiveOk")
	}
	// an L that is not ascending stays so
	list := []int{4, 2, 4, 1}
	i := impl.Ins{Op: impl.OpMake, L: list[:3]}
	got := impl.Reads(i)
	if !slices.Equal(got, []int{2, 4}) || !slices.Equal(list, []int{4, 2, 4, 1}) {
		t.Error(got, list)
	}
}

// What lies behind a list's length is not there.
func TestLiveSpareRoomIsNotRead(t *testing.T) {
	t.Parallel()
	for _, p := range liveArguments() {
		roomy := roomyPiece(p)
		for at := -1; at <= min(len(p.Ins)+2, 50); at++ {
			if impl.Guard(roomy, at) != impl.Guard(p, at) || !slices.Equal(impl.Nexts(roomy, at), impl.Nexts(p, at)) {
				t.Error(pieceText(p), at)
			}
		}
		for at, i := range p.Ins {
			if !slices.Equal(impl.Reads(roomy.Ins[at]), impl.Reads(i)) || impl.Writes(roomy.Ins[at]) != impl.Writes(i) {
				t.Error(plainInsText(i))
			}
		}
		if !sameLists(impl.Live(roomy), impl.Live(p)) {
			t.Error(pieceText(p))
		}
		for _, live := range listsFor(p) {
			if impl.LiveOk(roomy, roomyLists(live)) != impl.LiveOk(p, live) {
				t.Error(pieceText(p), live)
			}
		}
	}
}

func TestLiveAnswersAreNewMemory(t *testing.T) {
	t.Parallel()
	listPlaces := func(lists [][]int) []any {
		var places []any
		room := lists[:cap(lists)]
		for at := range room {
			places = append(places, &room[at])
			places = append(places, intPlaces(room[at])...)
		}
		return places
	}
	for _, p := range liveArguments() {
		code := codePlaces(impl.Code{Main: p})
		ownPlaces(t, "Live of "+pieceText(p), append(listPlaces(impl.Live(p)), listPlaces(impl.Live(p))...), code)
		for at, i := range p.Ins[:min(len(p.Ins), 30)] {
			ownPlaces(t, "Reads of "+plainInsText(i), append(intPlaces(impl.Reads(i)), intPlaces(impl.Reads(i))...), code)
			ownPlaces(t, "Nexts of "+pieceText(p), append(intPlaces(impl.Nexts(p, at)), intPlaces(impl.Nexts(p, at))...), code)
		}
	}
	// the L of an OpMake that is ascending already
	i := impl.Ins{Op: impl.OpMake, L: []int{1, 2, 3}}
	reads := impl.Reads(i)
	reads[0] = 99
	if !slices.Equal(i.L, []int{1, 2, 3}) || !slices.Equal(impl.Reads(i), []int{1, 2, 3}) {
		t.Error("an argument was written to", i.L)
	}
	// many lists that are alike are not one; and what is put behind one is not in another
	p := impl.Piece{In: 3, Regs: 3, Ins: append(slices.Repeat(toldList("end"), 20), toldIns("pair 0 1 2"), toldIns("ret 0"))}
	first := impl.Live(p)
	for at := range first {
		first[at] = append(first[at], 7)
		first[at][0] = 9
	}
	want := slices.Concat(slices.Repeat([][]int{{1, 2}}, 21), [][]int{{0}})
	if second := impl.Live(p); !sameLists(second, want) || !slices.Equal(first[3], []int{9, 2, 7}) || !slices.Equal(first[21], []int{9, 7}) {
		t.Error(second, first)
	}
}

// Nothing is kept from one call to another.
func TestLiveKeepsNothing(t *testing.T) {
	pieces := triedPieces(300)
	var lived [][][]int
	for _, p := range pieces {
		lived = append(lived, impl.Live(p))
	}
	for at, p := range slices.Backward(pieces) {
		impl.Live(impl.Piece{})
		impl.LiveOk(pieces[len(pieces)-1-at], lived[at])
		if got := impl.Live(p); !sameLists(got, lived[at]) || !impl.LiveOk(p, lived[at]) {
			t.Error(pieceText(p))
		}
	}
}
