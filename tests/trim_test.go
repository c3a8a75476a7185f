package tests

import (
	"fmt"
	"math"
	"reflect"
	"slices"
	"strconv"
	"strings"
	"testing"

	"loop.example/g00187/impl"
)

func TestMetOfStraightCode(t *testing.T) {
	trimmedCases(t, []trimCase{
		// one instruction
		{"1 1: ret 0", "+", "ret 0"}, {"0 1: ret 0", "+", "ret 0"}, {"0 0: jump 0", "+", "jump 0"},
		{"0 1: num 0 5; ret 0", "++", "num 0 5; ret 0"}, {"2 3: add 2 0 1; ret 2", "++", "add 2 0 1; ret 2"},
		{"2 4: call 2 0 1 5 6; call 3 0 2; add 2 2 3; ret 2", "++++", "call 2 0 1 5 6; call 3 0 2; add 2 2 3; ret 2"},
		{"3 5: pair 3 0 1; cons 4 3 2; make 0 7 4 1 4; first 1 0; second 2 1; bool 3 1; nil 4; ret 0", "++++++++", "pair 3 0 1; cons 4 3 2; make 0 7 4 1 4; first 1 0; second 2 1; bool 3 1; nil 4; ret 0"},
		// behind an OpJump, an OpRet, an OpRaise, reached from nowhere
		{"0 1: jump 2; num 0 1; ret 0", "+-+", "jump 1; ret 0"}, {"1 1: ret 0; num 0 1; ret 0", "+--", "ret 0; ret 0"}, {"1 1: raise 0; num 0 1; ret 0", "+--", "raise 0; ret 0"},
		{"1 1: ret 0; ret 0", "+-", "ret 0; ret 0"}, {"1 1: raise 0; ret 0", "+-", "raise 0; ret 0"}, {"1 1: jump 0; ret 0", "+-", "jump 0; ret 0"},
		{"1 1: ret 0; ret 0; ret 0; ret 0", "+---", "ret 0; ret 0"}, {"1 1: ret 0; raise 0; raise 0; jump 2", "+---", "ret 0; jump 1"},
		{"0 1: jump 4; num 0 1; num 0 2; num 0 3; ret 0", "+---+", "jump 1; ret 0"},
		// reached from elsewhere
		{"1 1: ifnot 0 3; num 0 1; jump 4; num 0 2; ret 0", "+++++", "ifnot 0 3; num 0 1; jump 4; num 0 2; ret 0"}, {"1 1: ifnil 0 2; ret 0; num 0 2; ret 0", "++++", "ifnil 0 2; ret 0; num 0 2; ret 0"}, {"1 1: ifnot 0 2; raise 0; num 0 2; ret 0", "++++", "ifnot 0 2; raise 0; num 0 2; ret 0"},
		{"1 1: ifnot 0 3; ret 0; num 0 9; num 0 2; ret 0", "++-++", "ifnot 0 2; ret 0; num 0 2; ret 0"}, {"1 1: ifnil 0 3; raise 0; num 0 9; num 0 2; ret 0", "++-++", "ifnil 0 2; raise 0; num 0 2; ret 0"},
		{"1 1: jump 3; num 0 1; ret 0; ifnil 0 1; ret 0", "+++++", "jump 3; num 0 1; ret 0; ifnil 0 1; ret 0"},
		// only from what is not reached
		{"1 1: jump 3; num 0 1; jump 1; ret 0", "+--+", "jump 1; ret 0"}, {"1 1: ret 0; ifnot 0 3; num 0 1; num 0 2; ret 0", "+----", "ret 0; ret 0"}, {"1 1: ret 0; jump 0", "+-", "ret 0; jump 0"},
	})
}

func TestMetOfLoops(t *testing.T) {
	trimmedCases(t, []trimCase{
		{"1 1: add 0 0 0; jump 0", "++", "add 0 0 0; jump 0"}, {"1 1: jump 0; num 0 1; ret 0", "+--", "jump 0; ret 0"},
		{"0 1: jump 2; num 0 1; jump 1", "+++", "jump 2; num 0 1; jump 1"}, {"0 1: jump 3; num 0 1; ret 0; jump 1", "++++", "jump 3; num 0 1; ret 0; jump 1"},
		{"1 2: num 1 1; ifnot 0 4; add 1 1 1; jump 1; ret 1", "+++++", "num 1 1; ifnot 0 4; add 1 1 1; jump 1; ret 1"},
		{"1 2: num 1 1; ifnot 0 0; jump 1; num 1 2; ret 1", "+++--", "num 1 1; ifnot 0 0; jump 1; ret 1"},
		// two loops, one within the other; a loop that is met from its end, and one that nobody meets
		{"1 1: num 0 1; add 0 0 0; ifnot 0 1; ifnil 0 0; ret 0", "+++++", "num 0 1; add 0 0 0; ifnot 0 1; ifnil 0 0; ret 0"},
		{"0 1: jump 5; num 0 1; num 0 2; num 0 3; jump 6; jump 3; ret 0", "+--++++", "jump 3; num 0 3; jump 4; jump 1; ret 0"},
		{"0 1: num 0 7; jump 6; num 0 1; ifnot 0 2; ifnil 0 6; jump 2; ret 0", "++----+", "num 0 7; jump 2; ret 0"},
		// a way back, step by step, from the last one
		{"0 1: jump 5; ret 0; jump 1; jump 2; jump 3; jump 4", "++++++", "jump 5; ret 0; jump 1; jump 2; jump 3; jump 4"},
	})
}

// Each of Nexts, a Guard among them.
func TestMetAtTheGuard(t *testing.T) {
	trimmedCases(t, []trimCase{
		{"0 2: try 1 4; num 0 3; raise 0; end; ret 1", "+++-+", "try 1 4; num 0 3; raise 0; end; ret 1"},
		{"0 2: try 1 4; num 0 3; end; ret 0; move 0 1; ret 0", "++++--", "try 1 4; num 0 3; end; ret 0; ret 0"},
		{"1 2: try 1 5; add 0 0 0; end; num 0 1; ret 0; move 0 1; ret 0", "+++++++", "try 1 5; add 0 0 0; end; num 0 1; ret 0; move 0 1; ret 0"},
		{"1 2: try 1 5; num 0 1; end; add 0 0 0; ret 0; move 0 1; ret 0", "+++++--", "try 1 5; num 0 1; end; add 0 0 0; ret 0; ret 0"},
		// a raise ahead of the OpTry, and one behind it that is not over
		{"1 2: add 0 0 0; try 1 4; end; ret 0; num 0 2; ret 0", "++++--", "add 0 0 0; try 1 4; end; ret 0; ret 0"},
		{"1 2: try 1 3; first 0 0; ret 0; num 0 2; ret 0", "+++++", "try 1 3; first 0 0; ret 0; num 0 2; ret 0"},
		// one that is not reached raises nothing
		{"1 2: try 1 5; jump 3; raise 0; end; ret 0; num 0 2; ret 0", "++-++--", "try 1 4; jump 2; end; ret 0; ret 0"},
		// a Guard that leads back
		{"1 2: num 1 0; try 0 0; raise 1; ret 0", "+++-", "num 1 0; try 0 0; raise 1; ret 0"},
		{"0 1: jump 3; num 0 1; ret 0; try 0 1; raise 0; ret 0", "+++++-", "jump 3; num 0 1; ret 0; try 0 1; raise 0; ret 0"},
		// one within another: the inner one, then the outer one
		{"1 3: try 1 7; try 2 6; raise 0; end; end; ret 0; raise 2; ret 1", "+++---+-", "try 1 6; try 2 5; raise 0; end; end; raise 2; ret 1"},
		{"1 3: try 1 7; try 2 5; raise 0; end; jump 5; raise 2; end; ret 1", "+++--+-+", "try 1 6; try 2 4; raise 0; end; raise 2; end; ret 1"},
		{"1 3: try 1 7; try 2 6; end; add 0 0 0; end; ret 0; num 0 6; num 0 7; ret 0", "++++++-++", "try 1 6; try 2 6; end; add 0 0 0; end; ret 0; num 0 7; ret 0"},
		{"1 3: try 1 7; try 2 6; add 0 0 0; end; end; ret 0; ret 2; num 0 7; ret 0", "+++++++--", "try 1 7; try 2 6; add 0 0 0; end; end; ret 0; ret 2; ret 0"},
		// by the order of the Ins: an OpTry and an OpEnd that are not Met count as well
		{"1 2: jump 2; try 1 4; add 0 0 0; ret 0; num 0 9; ret 1", "+-++++", "jump 2; try 1 4; add 0 0 0; ret 0; num 0 9; ret 1"},
		{"1 2: try 1 5; jump 3; end; add 0 0 0; ret 0; num 0 9; ret 0", "++-++--", "try 1 5; jump 3; end; add 0 0 0; ret 0; ret 0"},
		// an OpEnd too many
		{"1 2: end; end; try 1 6; add 0 0 0; end; ret 0; num 0 9; ret 0", "++++++++", "end; end; try 1 6; add 0 0 0; end; ret 0; num 0 9; ret 0"},
	})
}

// Which Ops may go on at their Guard.
func TestMetAtTheGuardOfEachOp(t *testing.T) {
	met := map[int]bool{}
	for word, raises := range map[string]bool{
		"num 0 1": false, "bool 0 1": false, "nil 0": false, "move 0 1": false, "pair 0 0 1": false, "cons 0 1 0": false, "make 0 9 0 1": false, "jump 3": false, "ret 1": false, "try 0 3": false, "end": false,
		"add 0 0 1": true, "less 0 1 1": true, "first 0 1": true, "second 0 0": true, "ifnot 0 3": true, "ifnil 1 3": true, "call 0 0 1 3": true, "call 0 1 1": true, "raise 0": true,
	} {
		p := toldPiece("2 3: try 2 5; num 0 0; end; end; ret 0; num 0 1; ret 0")
		p.Ins[1] = toldIns(word)
		met[p.Ins[1].Op] = true
		asPlainTrim(t, p)
		got, q := impl.Met(p), impl.Trim(p)
		if len(got) != 7 || got[5] != raises || got[6] != raises {
			t.Errorf("%s: met %s", word, metText(got))
		}
		if gone := 7 - len(q.Ins); (gone > 0) != (!raises || word == "raise 0") {
			t.Errorf("%s: %d are gone: %s", word, gone, pieceText(q))
		}
		// without the OpTry
		p.Ins[0] = toldIns("end")
		asPlainTrim(t, p)
		if got := impl.Met(p); len(got) != 7 || got[5] || got[6] {
			t.Errorf("%s without OpTry: met %s", word, metText(got))
		}
	}
	if len(met) != 18 {
		t.Error("the test's own", met)
	}
}

// What is not Met goes, but OpTry, OpEnd and the last one.
func TestTrimWhatIsNotMet(t *testing.T) {
	met := map[int]bool{}
	for _, word := range []string{"num 0 1", "bool 1 1", "nil 0", "move 0 1", "move 1 1", "add 0 0 1", "sub 0 0 1", "mul 0 0 1", "less 0 0 1", "same 0 0 1", "pair 0 0 1", "cons 0 1 0", "make 0 9 0 1", "first 0 1", "second 0 0", "ifnot 0 3", "ifnil 1 2", "jump 0", "jump 2", "jump 1", "jump 3", "call 0 0 1 3", "ret 1", "raise 0", "try 1 1", "try 0 0", "end"} {
		i := toldIns(word)
		met[i.Op] = true
		stays := i.Op == impl.OpTry || i.Op == impl.OpEnd
		for first, told := range map[string][2]string{"jump 2": {"jump 1; pair 0 0 1; ret 0", "jump 2; ?; pair 0 0 1; ret 0"}, "ret 0": {"ret 0; ret 0", "ret 0; ?; ret 0"}, "raise 0": {"raise 0; ret 0", "raise 0; ?; ret 0"}} {
			p := impl.Piece{Lam: 3, In: 2, Regs: 2, Ins: toldList(first + "; " + word + "; pair 0 0 1; ret 0")}
			want := p
			want.Ins = toldList(told[0])
			if stays {
				want.Ins = toldList(strings.Replace(told[1], "?", word, 1))
			}
			asPlainTrim(t, p)
			if got := impl.Trim(p); impl.Met(p)[1] || !equalPieces(got, want) {
				t.Errorf("%s behind %s: trimmed to %s, not %s", word, first, pieceText(got), pieceText(want))
			}
		}
		// Met it stays, unless it does nothing
		p := impl.Piece{Lam: 3, In: 2, Regs: 2, Ins: toldList("num 0 0; " + word + "; ret 0; ret 1")}
		asPlainTrim(t, p)
		got := impl.Trim(p)
		if does := word != "move 1 1" && word != "jump 2"; !impl.Met(p)[1] || got.Ins[0].Op != impl.OpNum || (got.Ins[1].Op == i.Op && (i.Op != impl.OpRet || got.Ins[1].X == 1)) != does {
			t.Errorf("%s: trimmed to %s", word, pieceText(got))
		}
	}
	if len(met) != 18 {
		t.Error("the test's own", met)
	}
	trimmedCases(t, []trimCase{
		// the last one, Met or not
		{"1 1: ret 0; jump 0", "+-", "ret 0; jump 0"}, {"1 1: ret 0; num 0 1; jump 2", "+--", "ret 0; jump 1"}, {"1 1: ret 0; num 0 1; ret 0", "+--", "ret 0; ret 0"}, {"1 1: raise 0; raise 0; raise 0; jump 1", "+---", "raise 0; jump 1"},
		// OpTry and OpEnd, not Met, and what is between them
		{"1 2: ret 0; try 1 3; add 0 0 0; end; ret 1", "+----", "ret 0; try 1 2; end; ret 1"}, {"1 2: ret 0; end; end; ret 1", "+---", "ret 0; end; end; ret 1"}, {"1 2: ret 0; try 1 0; try 1 1; try 1 2; ret 1", "+----", "ret 0; try 1 0; try 1 1; try 1 2; ret 1"},
		{"1 2: jump 5; try 1 3; add 0 0 0; raise 0; end; ret 0", "+----+", "jump 3; try 1 2; end; ret 0"},
		// OpTry and OpEnd that are Met, around nothing
		{"1 2: try 1 2; end; ret 0", "+++", "try 1 2; end; ret 0"}, {"1 2: try 1 1; end; ret 0", "+++", "try 1 1; end; ret 0"}, {"1 2: try 1 1; ret 0", "++", "try 1 1; ret 0"},
	})
}

func TestTrimMoves(t *testing.T) {
	trimmedCases(t, []trimCase{
		{"1 1: move 0 0; ret 0", "++", "ret 0"}, {"3 3: move 2 2; ret 2", "++", "ret 2"}, {"0 2: move 1 1; ret 1", "++", "ret 1"}, {"1 1: move 0 0; move 0 0; move 0 0; ret 0", "++++", "ret 0"},
		{"1 2: move 1 0; ret 1", "++", "move 1 0; ret 1"}, {"2 2: move 0 1; ret 0", "++", "move 0 1; ret 0"}, {"2 2: move 0 1; move 1 0; move 1 1; ret 0", "++++", "move 0 1; move 1 0; ret 0"},
		// from one to the other and back is not looked at
		{"2 2: move 0 1; move 0 1; ret 0", "+++", "move 0 1; move 0 1; ret 0"},
		// others that write what they read
		{"1 1: add 0 0 0; ret 0", "++", "add 0 0 0; ret 0"}, {"1 1: pair 0 0 0; ret 0", "++", "pair 0 0 0; ret 0"}, {"1 1: cons 0 0 0; ret 0", "++", "cons 0 0 0; ret 0"}, {"1 1: first 0 0; ret 0", "++", "first 0 0; ret 0"}, {"1 1: second 0 0; ret 0", "++", "second 0 0; ret 0"}, {"1 1: make 0 9 0; ret 0", "++", "make 0 9 0; ret 0"}, {"1 1: call 0 0 0 9; ret 0", "++", "call 0 0 0 9; ret 0"},
		// the same number, but no OpMove
		{"0 1: num 0 0; ret 0", "++", "num 0 0; ret 0"}, {"0 1: nil 0; bool 0 0; ret 0", "+++", "nil 0; bool 0 0; ret 0"}, {"1 1: ifnot 0 0; ret 0", "++", "ifnot 0 0; ret 0"}, {"1 1: try 0 0; ret 0", "++", "try 0 0; ret 0"}, {"1 1: end; ret 0", "++", "end; ret 0"}, {"1 1: ifnil 0 2; raise 0; ret 0", "+++", "ifnil 0 2; raise 0; ret 0"},
		// within what is tried, and behind it
		{"1 2: try 1 5; move 0 0; end; move 1 1; ret 0; ret 1", "+++++-", "try 1 3; end; ret 0; ret 1"},
		// ahead of the last one that leads back to it
		{"1 1: move 0 0; jump 0", "++", "jump 0"}, {"1 2: move 1 0; jump 0", "++", "move 1 0; jump 0"},
	})
}

func TestTrimJumps(t *testing.T) {
	trimmedCases(t, []trimCase{
		// to the one behind, to itself, to the one ahead, over one that stays
		{"1 1: jump 1; ret 0", "++", "ret 0"}, {"1 1: jump 0; ret 0", "+-", "jump 0; ret 0"}, {"1 1: num 0 1; jump 1; ret 0", "++-", "num 0 1; jump 1; ret 0"}, {"1 1: num 0 1; jump 0; ret 0", "++-", "num 0 1; jump 0; ret 0"}, {"1 1: ifnil 0 3; num 0 1; jump 4; num 0 2; ret 0", "+++++", "ifnil 0 3; num 0 1; jump 4; num 0 2; ret 0"},
		{"1 1: jump 2; end; ret 0", "+-+", "jump 2; end; ret 0"}, {"1 1: jump 2; try 0 0; ret 0", "+-+", "jump 2; try 0 0; ret 0"},
		// over what is gone: what stays is decided once
		{"1 1: jump 2; num 0 1; ret 0", "+-+", "jump 1; ret 0"}, {"1 1: jump 2; move 0 0; ret 0", "+-+", "jump 1; ret 0"}, {"1 1: jump 2; jump 2; ret 0", "+-+", "jump 1; ret 0"}, {"1 1: ifnil 0 2; jump 3; move 0 0; ret 0", "++++", "ifnil 0 2; jump 2; ret 0"},
		{"1 1: ifnil 0 3; num 0 1; jump 4; jump 4; ret 0", "+++++", "ifnil 0 3; num 0 1; jump 3; ret 0"},
		// one behind the other
		{"1 1: jump 1; jump 2; jump 3; ret 0", "++++", "ret 0"}, {"1 1: jump 1; move 0 0; jump 3; ret 0", "++++", "ret 0"}, {"1 1: jump 2; jump 3; jump 1; ret 0", "++++", "jump 2; jump 3; jump 1; ret 0"},
		// the last one leads nowhere but back
		{"1 1: num 0 1; jump 1", "++", "num 0 1; jump 1"}, {"1 1: jump 1; jump 0", "++", "jump 0"}, {"1 1: jump 1; jump 1", "++", "jump 0"}, {"1 1: jump 1; jump 2; num 0 1; jump 1", "++++", "num 0 1; jump 0"},
		// others whose To is behind them
		{"1 1: ifnot 0 1; ret 0", "++", "ifnot 0 1; ret 0"}, {"1 1: ifnil 0 1; ret 0", "++", "ifnil 0 1; ret 0"}, {"0 1: try 0 1; ret 0", "++", "try 0 1; ret 0"},
	})
}

// Where a To goes: to the first one that stays from there on.
func TestTrimWhereAToGoes(t *testing.T) {
	trimmedCases(t, []trimCase{
		// to what stays
		{"1 2: move 0 0; ifnot 0 3; num 1 1; ret 0", "++++", "ifnot 0 2; num 1 1; ret 0"}, {"1 2: move 0 0; ifnil 0 3; num 1 1; ret 0", "++++", "ifnil 0 2; num 1 1; ret 0"}, {"1 2: move 0 0; try 1 4; add 0 0 0; ret 0; ret 1", "+++++", "try 1 3; add 0 0 0; ret 0; ret 1"}, {"1 2: ifnil 0 3; num 0 1; jump 5; move 0 0; num 1 1; ret 0", "++++++", "ifnil 0 3; num 0 1; jump 4; num 1 1; ret 0"},
		// to what is gone, of each that goes on elsewhere
		{"1 2: ifnot 0 2; ret 0; move 1 1; ret 1", "++++", "ifnot 0 2; ret 0; ret 1"}, {"1 2: ifnil 0 2; ret 0; move 1 1; ret 1", "++++", "ifnil 0 2; ret 0; ret 1"}, {"1 2: try 1 4; add 0 0 0; end; ret 0; move 1 1; ret 1", "++++++", "try 1 4; add 0 0 0; end; ret 0; ret 1"}, {"1 1: ifnot 0 3; num 0 2; jump 4; num 0 1; move 0 0; num 0 3; ret 0", "+++++++", "ifnot 0 3; num 0 2; jump 4; num 0 1; num 0 3; ret 0"},
		// to several that are gone, one behind the other, for each reason
		{"1 2: ifnil 0 2; ret 0; move 1 1; jump 4; move 0 0; ret 1", "++++++", "ifnil 0 2; ret 0; ret 1"}, {"1 2: try 1 3; end; ret 0; num 0 1; num 0 2; num 0 3; ret 1", "+++----", "try 1 3; end; ret 0; ret 1"}, {"1 2: try 1 3; end; ret 0; num 0 1; move 0 0; jump 6; num 0 1; ret 1", "+++-----", "try 1 3; end; ret 0; ret 1"},
		{"1 2: try 1 3; jump 6; end; num 0 1; num 0 2; end; ret 0", "++----+", "try 1 3; jump 4; end; end; ret 0"}, {"1 2: try 1 4; jump 6; end; num 0 1; num 0 2; end; ret 0", "++----+", "try 1 3; jump 4; end; end; ret 0"},
		// to the last one, and to what is gone ahead of it
		{"1 2: ifnot 0 3; move 0 0; move 1 1; ret 0", "++++", "ifnot 0 1; ret 0"}, {"1 2: ifnot 0 2; move 0 0; move 1 1; ret 0", "++++", "ifnot 0 1; ret 0"}, {"1 2: ifnot 0 1; move 0 0; move 1 1; ret 0", "++++", "ifnot 0 1; ret 0"}, {"1 2: try 1 2; ret 0; num 0 1; jump 3", "++--", "try 1 2; ret 0; jump 2"},
		// back
		{"1 2: move 1 1; num 1 3; ifnot 0 5; jump 0; num 1 9; ret 1", "++++-+", "num 1 3; ifnot 0 3; jump 0; ret 1"}, {"1 2: num 1 1; move 1 1; num 1 3; ifnot 0 5; jump 1; ret 1", "++++++", "num 1 1; num 1 3; ifnot 0 4; jump 1; ret 1"}, {"1 2: num 1 1; move 1 1; ifnot 0 2; ifnil 0 1; jump 2", "+++++", "num 1 1; ifnot 0 1; ifnil 0 1; jump 1"},
		// to itself, behind what is gone
		{"1 1: move 0 0; ifnot 0 1; ret 0", "+++", "ifnot 0 0; ret 0"}, {"1 1: move 0 0; jump 1; ret 0", "++-", "jump 0; ret 0"}, {"1 1: move 0 0; move 0 0; try 0 2; ret 0", "++++", "try 0 0; ret 0"},
		// 0 is 0, of those that go on elsewhere and of those that do not, also where the first one is gone
		{"1 1: move 0 0; ifnot 0 0; jump 0", "+++", "ifnot 0 0; jump 0"}, {"1 2: jump 1; try 1 0; add 0 0 0; ret 0", "++++", "try 1 0; add 0 0 0; ret 0"}, {"1 1: jump 1; move 0 0; ifnil 0 0; jump 1", "++++", "ifnil 0 0; jump 0"},
		{"2 4: move 0 0; num 2 1; bool 3 1; nil 2; move 2 0; add 2 0 1; pair 2 0 1; cons 2 0 1; make 2 9 0; first 2 0; second 2 0; call 2 0 1 9; end; raise 0; ret 0", "++++++++++++++-", "num 2 1; bool 3 1; nil 2; move 2 0; add 2 0 1; pair 2 0 1; cons 2 0 1; make 2 9 0; first 2 0; second 2 0; call 2 0 1 9; end; raise 0; ret 0"},
	})
	// each To of each, with what is gone at each place
	for _, word := range []string{"ifnot 0 %d", "ifnil 0 %d", "jump %d", "try 1 %d"} {
		for to := range 8 {
			for gone := range 64 {
				p := toldPiece("1 2: num 1 0; num 1 1; num 1 2; num 1 3; num 1 4; num 1 5; ret 0; ret 1")
				for at := range 6 {
					if gone>>at&1 == 1 {
						p.Ins[at] = impl.Ins{Op: impl.OpMove}
					}
				}
				p.Ins[2] = toldIns(strings.Replace(word, "%d", strconv.Itoa(to), 1))
				asPlainTrim(t, p)
			}
		}
	}
}

// Ones that take more than one Trim: what stays is decided on p as it is.
func TestTrimAgain(t *testing.T) {
	for _, rounds := range [][]string{
		{"jump 2; num 0 1; ret 0", "jump 1; ret 0", "ret 0"},
		{"num 0 7; jump 2; move 0 0; jump 6; num 1 0; move 0 1; ret 0", "num 0 7; jump 2; ret 0", "num 0 7; ret 0"},
		{"ifnot 0 2; jump 4; jump 4; num 0 1; ret 0", "ifnot 0 2; jump 3; jump 3; ret 0", "ifnot 0 2; jump 2; ret 0", "ifnot 0 1; ret 0"},
		{"ifnot 0 3; ifnot 0 4; jump 6; jump 6; jump 6; num 0 1; ret 0", "ifnot 0 3; ifnot 0 4; jump 5; jump 5; jump 5; ret 0", "ifnot 0 3; ifnot 0 4; jump 4; jump 4; ret 0", "ifnot 0 3; ifnot 0 3; jump 3; ret 0", "ifnot 0 2; ifnot 0 2; ret 0"},
		{"try 1 4; move 0 0; end; jump 5; ret 1; ret 0", "try 1 3; end; jump 3; ret 0", "try 1 2; end; ret 0"},
		{"jump 3; jump 2; jump 1; ret 0", "jump 1; ret 0", "ret 0"},
		// never done with
		{"jump 2; end; ret 0", "jump 2; end; ret 0"}, {"jump 0; ret 0", "jump 0; ret 0"},
	} {
		for at, text := range rounds {
			p := impl.Piece{Lam: 3, In: 1, Regs: 2, Ins: toldList(text)}
			want := p
			want.Ins = toldList(rounds[min(at+1, len(rounds)-1)])
			if own := plainTrim(p); !equalPieces(own, want) {
				t.Errorf("the test's own: %s: %s", text, pieceText(own))
			}
			trimmedTo(t, p, plainMetIn(p), want)
		}
	}
	again := 0
	for _, p := range slices.Concat(piecesOfAll(loweredCodes(t, 60)), trimPieces(2500)) {
		rounds := 0
		for {
			_, q := asPlainTrim(t, p)
			if len(q.Ins) == len(p.Ins) {
				if !equalPieces(p, q) {
					t.Errorf("%s: trimmed to %s", pieceText(p), pieceText(q))
				}
				break
			}
			rounds++
			p = q
		}
		if rounds > 1 {
			again++
		}
	}
	if again < 100 {
		t.Error("too few", again)
	}
}

func TestTrimByChance(t *testing.T) {
	t.Parallel()
	gone := map[string]int{}
	moved, guarded, first := 0, 0, 0
	for _, p := range slices.Concat(trimPieces(3000), triedPieces(1000), piecesOfAll(anyCodes(500))) {
		met, q := asPlainTrim(t, p)
		stay := stayingIn(p)
		for at, i := range p.Ins {
			gone[plainGone(p, met, at)]++
			if !slices.Contains(stay, i.To) && strings.Contains(opFields[i.Op], "T") {
				moved++
			}
		}
		for place := range q.Ins {
			if plainTry(q, place) >= 0 {
				guarded++
			}
		}
		if stay[0] != 0 {
			first++
		}
	}
	if gone["not met"] < 5000 || gone["move"] < 500 || gone["jump"] < 500 || gone[""] < 5000 || moved < 1000 || guarded < 3000 || first < 300 {
		t.Error("too few", gone, moved, guarded, first)
	}
}

// Pieces as great as they may be.
func TestTrimOfGreatPieces(t *testing.T) {
	for _, row := range []struct {
		why  string
		left int
		ins  func(at int) impl.Ins
	}{
		{"jumps behind", 1, func(at int) impl.Ins { return impl.Ins{Op: 13, To: at + 1} }},
		{"jumps back", 600, func(at int) impl.Ins { return impl.Ins{Op: 13, To: (at + 597) % 599} }},
		{"jumps over all", 2, func(int) impl.Ins { return impl.Ins{Op: 13, To: 599} }},
		{"moves", 1, func(int) impl.Ins { return impl.Ins{Op: 4, D: 399, X: 399} }},
		{"other moves", 600, func(int) impl.Ins { return impl.Ins{Op: 4, D: 399, X: 398} }},
		{"tries", 600, func(at int) impl.Ins { return impl.Ins{Op: 17, D: at % 400, To: 599 - at} }},
		{"tries and raises", 600, func(at int) impl.Ins { return []impl.Ins{{Op: 17, D: 1, To: (at * 7) % 600}, {Op: 5, N: 1}}[at%2] }},
		{"ends", 600, func(int) impl.Ins { return impl.Ins{Op: 18} }},
		{"rets", 2, func(int) impl.Ins { return impl.Ins{Op: 15} }},
	} {
		p := impl.Piece{Lam: 3, In: 2, Regs: 400}
		for at := range 599 {
			p.Ins = append(p.Ins, row.ins(at))
		}
		p.Ins = append(p.Ins, impl.Ins{Op: 15, X: 399})
		_, q := asPlainTrim(t, p)
		if len(q.Ins) != row.left {
			t.Errorf("%s: %d are left", row.why, len(q.Ins))
		}
		p.Ins = append([]impl.Ins{{Op: 18}}, p.Ins...)
		notTrimmed(t, row.why, p, "many ins")
	}
}

// Pieces of Progs of each kind, by hand, packed and not.
func TestTrimOfLoweredProgs(t *testing.T) {
	for text, told := range map[string][2]string{
		"main n 5":                                         {"main 1: num 0 5; ret 0", "main 1: num 0 5; ret 0"},
		"main if t n 1 n 2":                                {"main 4: bool 0 1; ifnot 0 5; num 2 1; move 1 2; jump 7; num 3 2; move 1 3; ret 1", "main 1: bool 0 1; ifnot 0 4; num 0 1; jump 5; num 0 2; ret 0"},
		"main case h r nil n 1 v h":                        {"main 5: nil 0; ifnil 0 6; first 2 0; second 3 0; move 1 2; jump 8; num 4 1; move 1 4; ret 1", "main 2: nil 0; ifnil 0 6; first 1 0; second 0 0; move 0 1; jump 7; num 0 1; ret 0"},
		"main try e n 1 v e":                               {"main 3: try 1 5; num 2 1; end; move 0 2; jump 5; ret 0", "main 1: try 0 4; num 0 1; end; jump 4; ret 0"},
		"main try e raise n 5 v e":                         {"main 4: try 1 4; num 2 5; raise 2; end; move 0 1; ret 0", "main 1: try 0 4; num 0 5; raise 0; end; ret 0"},
		"main raise n 5":                                   {"main 2: num 0 5; raise 0; ret 1", "main 1: num 0 5; raise 0; ret 0"},
		"fun 4 0 x v x | main call 1 4 make 4 0 n 8":       {"fun 4 1 1: ret 0 | main 3: make 0 4; num 1 8; call 2 0 1 4; ret 2", "fun 4 1 1: ret 0 | main 2: make 0 4; num 1 8; call 0 0 1 4; ret 0"},
		"fun 4 0 x raise v x | main call 1 4 make 4 0 n 8": {"fun 4 1 2: raise 0; ret 1 | main 3: make 0 4; num 1 8; call 2 0 1 4; ret 2", "fun 4 1 1: raise 0; ret 0 | main 2: make 0 4; num 1 8; call 0 0 1 4; ret 0"},
		"main let x n 1 try e raise n 5 pair v x v e":      {"main 6: num 0 1; try 2 5; num 3 5; raise 3; end; pair 5 0 2; move 1 5; ret 1", "main 2: num 0 1; try 1 5; num 1 5; raise 1; end; pair 0 0 1; ret 0"},
	} {
		c := plainLower(toldProg(text))
		for at, from := range []impl.Code{c, plainPackAll(c)} {
			want := toldCode(told[at])
			if own := plainTrimAll(from); !equalCodes(own, want) {
				t.Errorf("the test's own: %s: %s, not %s", text, codeText(own), codeText(want))
			}
			if got := impl.TrimAll(from); !equalCodes(got, want) {
				t.Errorf("%s: %s, not %s", text, codeText(got), codeText(want))
			}
			endsTrimmed(t, from, 500)
		}
	}
}

// trimCounts are what was met among Codes that were trimmed.
type trimCounts struct{ values, raises, fuels, caught, fewer, less int }

func (n *trimCounts) count(c impl.Code, end impl.Outcome, before, after *codeWalker) {
	switch end.End {
	case impl.EndValue:
		n.values++
	case impl.EndRaise:
		n.raises++
	case impl.EndFuel:
		n.fuels++
	}
	if before.caught > 0 {
		n.caught++
	}
	if after.steps < before.steps {
		n.fewer++
	}
	if impl.Count(impl.TrimAll(c)) < impl.Count(c) {
		n.less++
	}
}

// What follows: trimmed it runs the same, and takes no more fuel.
func TestTrimmedCodeEndsTheSame(t *testing.T) {
	t.Parallel()
	for _, packed := range []bool{false, true} {
		var n trimCounts
		for _, c := range loweredCodes(t, 250) {
			if packed {
				c = impl.PackAll(c)
			}
			if !metOnTheWay(c, 150) {
				t.Errorf("%s: it meets what is not Met", codeText(c))
			}
			end, before, after := endsTrimmed(t, c, 150)
			n.count(c, end, before, after)
		}
		if n.values < 250 || n.raises < 80 || n.fuels < 5 || n.caught < 50 || n.less < 200 || packed && n.fewer < 100 {
			t.Error("too few", packed, n)
		}
	}
}

// Code that jumps about, as long as nothing is met on the way but what is Met: a raise may go on elsewhere than at the Guard.
func TestTrimmedCodeByChanceEndsTheSame(t *testing.T) {
	t.Parallel()
	var n trimCounts
	even, astray := 0, 0
	codes := slices.Concat(anyCodes(4000), strayCodes(1500))
	for _, p := range trimPieces(3000) {
		p.Lam, p.In = -1, 0
		c := impl.Code{Main: p, Funs: toldCode("fun 2 1 1: ret 0 | fun 3 3 3: pair 0 0 1; ret 0 | main 1: ret 0").Funs}
		if impl.CodeOk(c) {
			codes = append(codes, c)
		}
	}
	for _, c := range codes {
		if !metOnTheWay(c, 80) {
			trimmedAll(t, c)
			astray++
			continue
		}
		even++
		end, before, after := endsTrimmed(t, c, 80)
		n.count(c, end, before, after)
	}
	if even < 5000 || astray < 30 || n.values < 1000 || n.raises < 500 || n.caught < 300 || n.fewer < 1000 || n.less < 3000 {
		t.Error("too few", even, astray, n)
	}
}

// Whole programs by their texts, packed and trimmed, on a heap as well.
func TestTrimmedProgramsEndTheSame(t *testing.T) {
	t.Parallel()
	for text, want := range map[string]string{
		"fix f 0 f i i fn x i if op < v x 0 n 1 n 0 op + v x 0 app v f 0 op - v x 0 n 1 app v f 0 n 10":                                                                                                              "55",
		"fix map 0 f f i i f l i l i fn f f i i fn l l i case h r v l 0 nil i cons app v f 0 v h 0 app app v map 0 v f 0 v r 0 let k 0 n 7 app app v map 0 fn z i op * v z 0 v k 0 cons n 1 cons n 2 cons n 3 nil i": "[7,14,21]",
		"fix f 0 f i i fn x i if op < v x 0 n 1 raise i n 9 app v f 0 op - v x 0 n 1 try e app v f 0 n 3 op + v e 0 n 1":                                                                                             "10",
		"fix f 0 f i i fn x i try e if op < v x 0 n 1 raise i n 9 app v f 0 op - v x 0 n 1 raise i op + v e 0 n 1 app v f 0 n 3":                                                                                     "raise 13",
		"let a 0 n 1 try e try g raise i op + v a 0 n 1 raise i op + v g 0 n 1 op + v e 0 v a 0":                                                                                                                     "4",
		"if try e raise b n 5 op = v e 0 n 5 raise i n 6 n 7":                                                                                                                                                        "raise 6", "try e op * n 1000000 n 2 v e 0": "-1", "raise i n 7": "raise 7", "fix f 0 f i i fn x i app v f 0 v x 0 app v f 0 n 3": "fuel",
	} {
		c := impl.PackAll(asPlainLower(t, asPlainDefun(t, parsedUnlike(t, text))))
		end, before, after := endsTrimmed(t, c, 1200)
		trimmed := impl.TrimAll(c)
		if told := impl.RunCode(trimmed, impl.MaxFuel); told != ends(want) || want != "fuel" && end != told {
			t.Errorf("%s: %v, not %s", text, told, want)
		}
		if want != "fuel" && impl.Count(trimmed) == impl.Count(c) {
			t.Errorf("%s: nothing is gone, %d steps, %d before", text, after.steps, before.steps)
		}
		for every := range 3 {
			if got, _ := impl.RunMach(trimmed, 400, every, impl.MaxFuel); want != "fuel" && got != ends(want) {
				t.Errorf("%s on a heap: %v, not %s", text, got, want)
			}
		}
	}
}

// Whose Piece it is, how many it is handed and how many registers it has stays; no Lam is asked for.
func TestTrimLeavesTheRest(t *testing.T) {
	for _, lam := range []int{math.MinInt, -2, -1, 0, 3, 149, 150, math.MaxInt} {
		for in := range 3 {
			for regs := max(in, 2); regs < 5; regs++ {
				p := impl.Piece{Lam: lam, In: in, Regs: regs, Ins: toldList("make 1 7 0 1; jump 2; call 0 1 0; move 1 1; ret 0; num 0 1; ret 1")}
				p.Ins[0].N = lam
				p.Ins[2].L = []int{lam, 3, lam}
				asPlainTrim(t, p)
				got := impl.Trim(p)
				if got.Lam != lam || got.In != in || got.Regs != regs || len(got.Ins) != 4 || got.Ins[0].N != lam || !slices.Equal(got.Ins[0].L, []int{0, 1}) || !slices.Equal(got.Ins[1].L, []int{lam, 3, lam}) {
					t.Error(pieceText(p), got)
				}
			}
		}
	}
}

// TrimAll trims each Piece by itself: as Trim does.
func TestTrimAllIsTrimOfEach(t *testing.T) {
	t.Parallel()
	for _, c := range slices.Concat(anyCodes(300), loweredCodes(t, 60)) {
		got := trimmedAll(t, c)
		if len(got.Funs) != len(c.Funs) || !equalPieces(got.Main, impl.Trim(c.Main)) {
			t.Error(codeText(c))
		}
		for at, p := range c.Funs {
			if !equalPieces(got.Funs[at], impl.Trim(p)) {
				t.Error(codeText(c))
			}
		}
	}
	for text, told := range map[string]string{
		"main 1: move 0 0; ret 0": "main 1: ret 0", "main 1: jump 2; num 0 1; ret 0": "main 1: jump 1; ret 0",
		"fun 2 1 1: jump 1; ret 0 | fun 5 1 2: ret 0; num 1 1; ret 1 | fun 9 3 4: move 3 3; jump 2; try 3 4; add 0 0 0; ret 3 | main 3: make 0 5; num 1 1; call 2 0 1 2 5; jump 4; ret 2": "fun 2 1 1: ret 0 | fun 5 1 2: ret 0; ret 1 | fun 9 3 4: try 3 2; add 0 0 0; ret 3 | main 3: make 0 5; num 1 1; call 2 0 1 2 5; ret 2",
		"fun 2 1 1: ret 0 | main 1: jump 1; ret 0": "fun 2 1 1: ret 0 | main 1: ret 0", "fun 2 1 1: jump 1; ret 0 | main 1: ret 0": "fun 2 1 1: ret 0 | main 1: ret 0",
	} {
		c, want := toldCode(text), toldCode(told)
		if got := trimmedAll(t, c); !equalCodes(got, want) {
			t.Errorf("%s: trimmed to %s", text, codeText(got))
		}
		endsTrimmed(t, c, 50)
	}
	// as many Funs as there may be
	c := toldCode("main 3: num 1 1; jump 2; ret 1")
	for lam := range 150 {
		c.Funs = append(c.Funs, impl.Piece{Lam: lam, In: 1, Regs: 3, Ins: toldList("num 1 1; move 2 2; ret 2")})
	}
	if got := trimmedAll(t, c); len(got.Funs) != 150 || impl.Count(got) != 302 {
		t.Error(codeText(got))
	}
	c.Funs = append(c.Funs, impl.Piece{Lam: 150, In: 1, Regs: 3, Ins: toldList("num 1 1; move 2 2; ret 2")})
	notTrimmedAll(t, "Lam 150", c)
}

// Each condition of a right Piece, broken alone.
func TestTrimOfWhatIsNotRight(t *testing.T) {
	asPlainTrim(t, toldPiece(triedText))
	notTrimmed(t, "zero", impl.Piece{}, "no ins")
	notTrimmedAll(t, "zero", impl.Code{})
	for _, c := range wrongPieces() {
		notTrimmed(t, c.why, c.p, c.faults)
		c.p.Lam = -1
		notTrimmedAll(t, c.why, impl.Code{Main: c.p})
	}
}

// trimmableCode is fullerCode with something to trim in each Piece.
func trimmableCode() impl.Code {
	return toldCode("fun 3 2 5: add 2 0 1; ifnot 2 4; move 2 2; move 3 2; make 4 3 1; call 2 4 0 3 7; ret 2 | fun 7 1 4: num 1 -1000000; bool 2 1; nil 3; cons 2 1 3; ifnil 2 6; second 3 2; jump 8; raise 1; ret 3 | fun 9 1 1: jump 1; ret 0 |" +
		"main 6: num 0 5; try 1 10; make 2 3 0; make 3 7; call 4 2 0 3; pair 5 4 3; first 0 5; end; jump 10; nil 0; sub 1 1 0; less 2 1 0; same 3 1 0; mul 4 1 0; ret 4")
}

// Each change of each instruction and each Piece of a Code: right Pieces are trimmed though their Code is not right, but not by TrimAll.
func TestTrimOfEachChange(t *testing.T) {
	t.Parallel()
	alone, pieceAlone := map[string]int{}, map[string]int{}
	right, rightPieces := 0, 0
	look := func(why string, c impl.Code, at int) {
		p := *piecesOf(&c)[at]
		if faults := pieceFaults(p); len(faults) == 0 {
			rightPieces++
			asPlainTrim(t, p)
		} else {
			notTrimmed(t, why, p, strings.Join(faults, ", "))
			if len(faults) == 1 {
				pieceAlone[faults[0]]++
			}
		}
		faults := codeFaults(c)
		if len(faults) == 0 {
			right++
			trimmedAll(t, c)
			return
		}
		notTrimmedAll(t, why, c)
		if len(faults) == 1 {
			alone[faults[0]]++
		}
	}
	whole := trimmableCode()
	trimmed := trimmedAll(t, whole)
	for at, p := range piecesOf(&whole) {
		if len(piecesOf(&trimmed)[at].Ins) >= len(p.Ins) {
			t.Error("the test's own: nothing to trim", pieceText(*p))
		}
		for place := range p.Ins {
			for why, change := range insChanges() {
				c := trimmableCode()
				change(&piecesOf(&c)[at].Ins[place])
				look(fmt.Sprint(why, " at ", place, " of ", at), c, at)
			}
		}
		for why, change := range pieceChanges() {
			c := trimmableCode()
			change(piecesOf(&c)[at])
			look(fmt.Sprint(why, " of ", at), c, at)
		}
	}
	turned := trimmableCode()
	slices.Reverse(turned.Funs)
	look("turned", turned, 0)
	many := trimmableCode()
	many.Funs = slices.Repeat(many.Funs[2:], 201)
	look("201 Funs", many, 0)
	pieceOnly := []string{"regs", "no ins", "many ins", "last", "op", "field D", "field X", "field Y", "field N", "field T", "field L", "to", "register D", "register X", "register Y", "register L", "number"}
	for _, fault := range append([]string{"in"}, pieceOnly...) {
		if pieceAlone[fault] == 0 {
			t.Errorf("%q is never alone in a Piece", fault)
		}
	}
	for _, fault := range append([]string{"lam", "lam order", "in", "main lam", "main in", "count", "no fun", "no fun in L", "order of L"}, pieceOnly...) {
		if alone[fault] == 0 {
			t.Errorf("%q is never alone", fault)
		}
	}
	if right < 300 || rightPieces < 300 {
		t.Error("too few", right, rightPieces)
	}
}

// trimArguments are Pieces of all sorts, right and wrong, with something to trim and without.
func trimArguments() []impl.Piece {
	all := append(liveArguments(), trimPieces(300)...)
	for _, c := range wrongPieces() {
		all = append(all, c.p)
	}
	return all
}

func TestTrimArgumentsStay(t *testing.T) {
	t.Parallel()
	for _, p := range trimArguments() {
		roomy := roomyPiece(p)
		kept := fullPiece(roomy)
		impl.Met(roomy)
		impl.Trim(roomy)
		if !reflect.DeepEqual(fullPiece(roomy), kept) {
			t.Fatal("an argument was written to", pieceText(p))
		}
	}
	for _, c := range append(codeArguments(), trimmableCode()) {
		roomy := roomyCode(c)
		kept := fullCode(roomy)
		impl.TrimAll(roomy)
		if !reflect.DeepEqual(fullCode(roomy), kept) {
			t.Fatal("an argument was written to", codeText(c))
		}
	}
}

// What lies behind a list's length is not there; it is not handed out, either.
func TestTrimSpareRoomIsNotRead(t *testing.T) {
	t.Parallel()
	unknown := func(p impl.Piece) bool {
		for _, i := range p.Ins[len(p.Ins):cap(p.Ins)] {
			if !reflect.DeepEqual(i, impl.Ins{}) {
				return true
			}
		}
		return false
	}
	for _, p := range trimArguments() {
		roomy := roomyPiece(p)
		got := impl.Trim(roomy)
		if !slices.Equal(impl.Met(roomy), impl.Met(p)) || !equalPieces(got, impl.Trim(p)) || unknown(got) {
			t.Error(pieceText(p))
		}
	}
	for _, c := range append(codeArguments(), trimmableCode()) {
		got := impl.TrimAll(roomyCode(c))
		if !equalCodes(got, impl.TrimAll(c)) || slices.ContainsFunc(append(slices.Clone(got.Funs), got.Main), unknown) {
			t.Error(codeText(c))
		}
	}
}

func TestTrimAnswersAreNewMemory(t *testing.T) {
	t.Parallel()
	for _, p := range trimArguments() {
		roomy := roomyPiece(p)
		given := codePlaces(impl.Code{Main: roomy})
		ownPlaces(t, "Met of "+pieceText(p), append(boolPlaces(impl.Met(roomy)), boolPlaces(impl.Met(roomy))...), given)
		ownPlaces(t, "Trim of "+pieceText(p), append(codePlaces(impl.Code{Main: impl.Trim(roomy)}), codePlaces(impl.Code{Main: impl.Trim(roomy)})...), given)
	}
	for _, c := range append(codeArguments(), trimmableCode()) {
		roomy := roomyCode(c)
		ownPlaces(t, "TrimAll of "+codeText(c), append(codePlaces(impl.TrimAll(roomy)), codePlaces(impl.TrimAll(roomy))...), codePlaces(roomy))
	}
	// one list at many places, of what is right and what is not
	regs, lams, ret := []int{0, 1}, []int{3, 7}, toldList("ret 0")
	ins := []impl.Ins{{Op: impl.OpMake, D: 2, N: 3, L: regs}, {Op: impl.OpMake, D: 2, N: 3, L: regs}, {Op: impl.OpCall, D: 2, X: 2, L: lams}, {Op: impl.OpCall, D: 2, X: 2, L: lams}, {Op: impl.OpRet, X: 2}}
	right := impl.Code{Funs: []impl.Piece{{Lam: 3, In: 3, Regs: 3, Ins: ins}, {Lam: 7, In: 2, Regs: 3, Ins: ins}}, Main: impl.Piece{Lam: -1, Regs: 3, Ins: ins}}
	wrong := impl.Code{Funs: []impl.Piece{{Lam: 3, In: 3, Regs: 3, Ins: ins}, {Lam: 7, In: 2, Regs: 3, Ins: ret}}, Main: impl.Piece{Lam: 5, Regs: 3, Ins: ins}}
	codeIs(t, "shared", right, "")
	codeIs(t, "shared", wrong, "main lam")
	bad := impl.Piece{Regs: 3, Ins: append(slices.Clone(ins[:4]), impl.Ins{Op: impl.OpEnd, L: regs})}
	for why, c := range map[string]impl.Code{"right": right, "wrong": wrong, "bad": {Main: bad, Funs: []impl.Piece{bad, bad}}} {
		first, second := impl.TrimAll(c), impl.TrimAll(c)
		ownPlaces(t, why, append(codePlaces(first), codePlaces(second)...), codePlaces(impl.Code{Main: c.Main}), codePlaces(c))
		for _, p := range piecesOf(&first) {
			for at := range p.Ins {
				for n := range p.Ins[at].L {
					p.Ins[at].L[n] = 99
				}
				p.Ins[at].Op = 77
			}
		}
		if !equalCodes(impl.TrimAll(c), second) {
			t.Error(why, "is other than it was")
		}
	}
	ownPlaces(t, "bad", codePlaces(impl.Code{Main: impl.Trim(bad)}), codePlaces(impl.Code{Main: bad}))
	if !slices.Equal(regs, []int{0, 1}) || !slices.Equal(lams, []int{3, 7}) || ins[0].Op != impl.OpMake {
		t.Error("an argument was written to", regs, lams, ins)
	}
}

// Nothing is kept from one call to another.
func TestTrimKeepsNothing(t *testing.T) {
	pieces := trimPieces(300)
	var met [][]bool
	var trimmed []impl.Piece
	for _, p := range pieces {
		met = append(met, impl.Met(p))
		trimmed = append(trimmed, impl.Trim(p))
	}
	for at, p := range slices.Backward(pieces) {
		impl.Met(impl.Piece{})
		impl.Trim(impl.Piece{In: -1})
		impl.TrimAll(trimmableCode())
		if !slices.Equal(impl.Met(p), met[at]) || !equalPieces(impl.Trim(p), trimmed[at]) {
			t.Error(pieceText(p))
		}
	}
}
