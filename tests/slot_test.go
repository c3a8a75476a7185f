package tests

import (
	"fmt"
	"math"
	"math/rand"
	"reflect"
	"slices"
	"strings"
	"testing"

	"loop.example/g00187/impl"
)

func TestSlotsOfStraightCode(t *testing.T) {
	slottedAll(t, []slotCase{
		{"0 1: num 0 5; ret 0", "", "0", "0 1: num 0 5; ret 0"},
		{"2 3: add 2 0 1; ret 2", "0 1", "0 1 0", "2 2: add 0 0 1; ret 0"},
		{"1 4: add 1 0 0; mul 2 1 1; sub 3 2 1; ret 3", "1 2", "0 0 1 0", "1 2: add 0 0 0; mul 1 0 0; sub 0 1 0; ret 0"},
		{"0 3: num 0 1; num 1 2; add 2 0 1; ret 2", "0 1", "0 1 0", "0 2: num 0 1; num 1 2; add 0 0 1; ret 0"},
		{"0 4: num 0 1; num 1 2; num 2 3; make 3 9 0 1 2; ret 3", "0 1, 0 2, 1 2", "0 1 2 0", "0 3: num 0 1; num 1 2; num 2 3; make 0 9 0 1 2; ret 0"},
		// each is read once, by the next one
		{"0 4: num 0 1; move 1 0; move 2 1; move 3 2; ret 3", "", "0 0 0 0", "0 1: num 0 1; move 0 0; move 0 0; move 0 0; ret 0"},
		// calls, records, parts
		{"2 4: call 2 0 1 5 6; call 3 0 2; add 2 2 3; ret 2", "0 1, 0 2, 2 3", "0 1 1 0", "2 2: call 1 0 1 5 6; call 0 0 1; add 1 1 0; ret 1"},
		{"3 5: pair 3 0 1; cons 4 3 2; make 0 7 4 1 4; ret 0", "0 1, 0 2, 1 2, 1 3, 1 4, 2 3", "0 1 2 0 0", "3 3: pair 0 0 1; cons 0 0 2; make 0 7 0 1 0; ret 0"},
		{"1 3: first 1 0; second 2 0; pair 0 1 2; ret 0", "0 1, 1 2", "0 1 0", "1 2: first 1 0; second 0 0; pair 0 1 0; ret 0"},
		// behind what goes on nowhere
		{"1 2: ret 0; move 1 0; ret 1", "", "0 0", "1 1: ret 0; move 0 0; ret 0"},
		{"1 3: raise 0; num 1 0; num 2 0; pair 1 1 2; ret 1", "1 2", "0 0 1", "1 2: raise 0; num 0 0; num 1 0; pair 0 0 1; ret 0"},
	})
}

// What is written clashes with what lives behind it, also if nobody reads it.
func TestSlotsOfWhatIsNeverRead(t *testing.T) {
	slottedAll(t, []slotCase{
		{"1 2: num 1 5; ret 0", "0 1", "0 1", "1 2: num 1 5; ret 0"},
		{"0 2: num 0 1; num 1 2; ret 0", "0 1", "0 1", "0 2: num 0 1; num 1 2; ret 0"},
		// nobody lives behind it
		{"0 2: num 0 1; num 1 2; ret 1", "", "0 0", "0 1: num 0 1; num 0 2; ret 0"},
		// several, which do not clash with each other
		{"1 3: num 1 5; num 2 6; ret 0", "0 1, 0 2", "0 1 1", "1 2: num 1 5; num 1 6; ret 0"},
		{"0 3: num 0 1; num 1 2; num 2 3; pair 0 0 1; ret 0", "0 1, 0 2, 1 2", "0 1 2", "0 3: num 0 1; num 1 2; num 2 3; pair 0 0 1; ret 0"},
		// by each Op that writes
		{"1 2: bool 1 1; ret 0", "0 1", "0 1", "1 2: bool 1 1; ret 0"}, {"1 2: nil 1; ret 0", "0 1", "0 1", "1 2: nil 1; ret 0"}, {"1 2: move 1 0; ret 0", "0 1", "0 1", "1 2: move 1 0; ret 0"}, {"1 2: add 1 0 0; ret 0", "0 1", "0 1", "1 2: add 1 0 0; ret 0"}, {"1 2: pair 1 0 0; ret 0", "0 1", "0 1", "1 2: pair 1 0 0; ret 0"}, {"1 2: cons 1 0 0; ret 0", "0 1", "0 1", "1 2: cons 1 0 0; ret 0"}, {"1 2: make 1 9; ret 0", "0 1", "0 1", "1 2: make 1 9; ret 0"}, {"1 2: first 1 0; ret 0", "0 1", "0 1", "1 2: first 1 0; ret 0"}, {"1 2: second 1 0; ret 0", "0 1", "0 1", "1 2: second 1 0; ret 0"}, {"1 2: call 1 0 0 9; ret 0", "0 1", "0 1", "1 2: call 1 0 0 9; ret 0"},
		// the lesser one is what is never read
		{"0 2: num 1 1; num 0 2; ret 1", "0 1", "0 1", "0 2: num 1 1; num 0 2; ret 1"},
		// it reads what nobody reads behind it
		{"2 3: add 2 0 1; ret 0", "0 1, 0 2", "0 1 1", "2 2: add 1 0 1; ret 0"},
		// written again before it is read
		{"0 2: num 0 1; num 1 2; num 0 3; pair 0 0 1; ret 0", "0 1", "0 1", "0 2: num 0 1; num 1 2; num 0 3; pair 0 0 1; ret 0"},
		{"0 3: num 0 1; num 1 2; num 0 3; add 2 0 0; ret 2", "", "0 0 0", "0 1: num 0 1; num 0 2; num 0 3; add 0 0 0; ret 0"},
		{"0 3: num 2 7; num 0 1; num 0 3; pair 0 0 2; ret 0", "0 2", "0 0 1", "0 2: num 1 7; num 0 1; num 0 3; pair 0 0 1; ret 0"},
		{"0 3: num 2 7; num 0 1; move 1 2; num 0 3; pair 0 0 1; ret 0", "0 1, 0 2", "0 1 1", "0 2: num 1 7; num 0 1; move 1 1; num 0 3; pair 0 0 1; ret 0"},
		// it reads and writes the same one
		{"1 1: add 0 0 0; ret 0", "", "0", "1 1: add 0 0 0; ret 0"}, {"1 1: move 0 0; ret 0", "", "0", "1 1: move 0 0; ret 0"},
		{"0 2: num 0 1; num 1 2; add 1 1 0; pair 1 1 0; ret 1", "0 1", "0 1", "0 2: num 0 1; num 1 2; add 1 1 0; pair 1 1 0; ret 1"},
		{"0 3: num 0 1; num 1 2; add 1 1 0; move 2 1; ret 2", "0 1", "0 1 0", "0 2: num 0 1; num 1 2; add 1 1 0; move 0 1; ret 0"},
		{"0 2: num 0 1; num 1 2; add 0 0 0; ret 1", "0 1", "0 1", "0 2: num 0 1; num 1 2; add 0 0 0; ret 1"},
		// a copy clashes where what it is of lives on, and does not where it ends
		{"0 2: num 0 1; move 1 0; ret 0", "0 1", "0 1", "0 2: num 0 1; move 1 0; ret 0"}, {"0 2: num 0 1; move 1 0; ret 1", "", "0 0", "0 1: num 0 1; move 0 0; ret 0"},
		// where it is not met
		{"2 3: ret 0; num 2 1; ret 0", "0 1, 0 2", "0 1 1", "2 2: ret 0; num 1 1; ret 0"},
	})
}

// An OpTry writes its D where it goes on at To, and nowhere else.
func TestSlotsOfTries(t *testing.T) {
	slottedAll(t, []slotCase{
		// nobody reads D: what lives ahead of To
		{"1 3: try 1 3; add 2 0 0; ret 2; ret 0", "0 1, 0 2", "0 1 1", "1 2: try 1 3; add 1 0 0; ret 1; ret 0"},
		{"0 3: num 0 5; try 0 3; ret 0; ret 1", "0 1", "0 1 0", "0 2: num 0 5; try 0 3; ret 0; ret 1"},
		{"0 4: num 1 5; num 2 6; try 0 4; raise 1; pair 3 1 2; ret 3", "0 1, 0 2, 1 2", "0 1 2 0", "0 3: num 1 5; num 2 6; try 0 4; raise 1; pair 0 1 2; ret 0"},
		// what lives ahead of the next one, and not ahead of To
		{"0 3: num 0 5; try 1 4; raise 0; ret 0; num 2 1; ret 2", "", "0 0 0", "0 1: num 0 5; try 0 4; raise 0; ret 0; num 0 1; ret 0"},
		{"0 3: num 0 5; num 1 6; try 2 5; add 0 0 1; ret 0; ret 2", "0 1, 0 2", "0 1 1", "0 2: num 0 5; num 1 6; try 1 5; add 0 0 1; ret 0; ret 1"},
		// D is read, beside another
		{"0 3: num 0 5; try 1 5; raise 0; end; ret 0; pair 2 0 1; ret 2", "0 1", "0 1 0", "0 2: num 0 5; try 1 5; raise 0; end; ret 0; pair 0 0 1; ret 0"},
		// its D lives ahead of it, as the next one wants it
		{"0 2: num 0 5; num 1 6; try 0 4; ret 0; ret 1", "0 1", "0 1", "0 2: num 0 5; num 1 6; try 0 4; ret 0; ret 1"},
		// what is written by one that may raise, and what lives where that goes on: the D of the OpTry, too
		{"0 3: num 0 5; try 1 4; add 2 0 0; ret 2; ret 1", "1 2", "0 0 1", "0 2: num 0 5; try 0 4; add 1 0 0; ret 1; ret 0"},
		{"0 3: num 0 5; try 1 4; first 2 0; ret 2; ret 1", "1 2", "0 0 1", "0 2: num 0 5; try 0 4; first 1 0; ret 1; ret 0"},
		{"0 3: num 0 5; try 1 4; second 2 0; ret 2; ret 1", "1 2", "0 0 1", "0 2: num 0 5; try 0 4; second 1 0; ret 1; ret 0"},
		{"0 3: num 0 5; try 1 4; call 2 0 0 3; ret 2; ret 1", "1 2", "0 0 1", "0 2: num 0 5; try 0 4; call 1 0 0 3; ret 1; ret 0"},
		{"0 3: num 0 5; try 1 4; add 2 0 0; ret 0; ret 1", "0 2, 1 2", "0 0 1", "0 2: num 0 5; try 0 4; add 1 0 0; ret 0; ret 0"},
		// by one that does not
		{"0 3: num 0 5; try 1 4; pair 2 0 0; ret 2; ret 1", "", "0 0 0", "0 1: num 0 5; try 0 4; pair 0 0 0; ret 0; ret 0"},
		{"0 3: num 0 5; try 1 4; move 2 0; ret 2; ret 1", "", "0 0 0", "0 1: num 0 5; try 0 4; move 0 0; ret 0; ret 0"},
		{"0 3: num 0 5; try 1 5; end; add 2 0 0; ret 2; ret 1", "", "0 0 0", "0 1: num 0 5; try 0 5; end; add 0 0 0; ret 0; ret 0"},
		// what it would write lives ahead of it, for where a raise goes on
		{"0 3: num 0 5; num 1 6; try 2 5; add 0 1 1; ret 0; pair 0 0 2; ret 0", "0 1, 0 2", "0 1 1", "0 2: num 0 5; num 1 6; try 1 5; add 0 1 1; ret 0; pair 0 0 1; ret 0"},
		// To is the next one, of what may raise and of the OpTry
		{"0 3: num 0 5; try 1 3; add 2 0 0; pair 2 1 2; ret 2", "0 1, 0 2, 1 2", "0 1 2", "0 3: num 0 5; try 1 3; add 2 0 0; pair 2 1 2; ret 2"},
		{"0 2: num 0 5; try 1 2; ret 0", "0 1", "0 1", "0 2: num 0 5; try 1 2; ret 0"},
		// one within the other: of what is raised within the inner one, and behind it
		{"0 5: num 0 5; try 1 7; try 2 8; raise 0; end; end; ret 0; ret 1; pair 3 0 2; ret 3", "0 2", "0 0 1 0 0", "0 2: num 0 5; try 0 7; try 1 8; raise 0; end; end; ret 0; ret 0; pair 0 0 1; ret 0"},
		{"0 4: num 0 5; try 1 7; try 2 8; end; raise 0; end; ret 0; pair 3 0 1; ret 3", "0 1, 2 3", "0 1 0 1", "0 2: num 0 5; try 1 7; try 0 8; end; raise 0; end; ret 0; pair 1 0 1; ret 1"},
		// back to the OpTry itself
		{"0 3: num 0 5; num 2 0; try 1 2; add 2 0 0; ret 2", "0 1, 0 2", "0 1 1", "0 2: num 0 5; num 1 0; try 1 2; add 1 0 0; ret 1"},
	})
}

func TestSlotsOfJumps(t *testing.T) {
	slottedAll(t, []slotCase{
		// an if, a case
		{"1 4: ifnot 0 4; num 2 1; move 1 2; jump 6; num 3 2; move 1 3; ret 1", "", "0 0 0 0", "1 1: ifnot 0 4; num 0 1; move 0 0; jump 6; num 0 2; move 0 0; ret 0"},
		{"3 4: ifnot 0 3; move 3 1; jump 4; move 3 2; ret 3", "0 1, 0 2, 1 2", "0 1 2 0", "3 3: ifnot 0 3; move 0 1; jump 4; move 0 2; ret 0"},
		{"2 5: ifnil 0 5; first 3 0; second 4 0; cons 2 3 4; jump 6; move 2 1; ret 2", "0 1, 0 3, 3 4", "0 1 0 1 0", "2 2: ifnil 0 5; first 1 0; second 0 0; cons 0 1 0; jump 6; move 0 1; ret 0"},
		// what lives on one way alone does not clash with what is written on the other
		{"1 4: num 1 5; ifnot 0 4; num 2 1; ret 2; num 3 2; pair 3 1 3; ret 3", "0 1, 1 3", "0 1 0 0", "1 2: num 1 5; ifnot 0 4; num 0 1; ret 0; num 0 2; pair 0 1 0; ret 0"},
		// ahead and back, one over the other
		{"1 3: jump 3; move 1 0; ret 1; num 2 2; move 0 2; jump 1", "", "0 0 0", "1 1: jump 3; move 0 0; ret 0; num 0 2; move 0 0; jump 1"},
		{"0 4: num 0 1; jump 4; pair 3 0 2; ret 3; num 1 2; move 2 1; jump 2", "0 1, 0 2", "0 1 1 0", "0 2: num 0 1; jump 4; pair 0 0 1; ret 0; num 1 2; move 1 1; jump 2"},
		// loops
		{"1 5: num 1 0; num 2 1; less 3 0 2; ifnot 3 5; ret 1; add 1 1 0; sub 0 0 2; jump 2", "0 1, 0 2, 0 3, 1 2, 1 3, 2 3", "0 1 2 3 0", "1 4: num 1 0; num 2 1; less 3 0 2; ifnot 3 5; ret 1; add 1 1 0; sub 0 0 2; jump 2"},
		{"2 3: move 2 0; move 0 1; move 1 2; jump 0", "0 1, 0 2, 1 2", "0 1 2", "2 3: move 2 0; move 0 1; move 1 2; jump 0"},
		{"1 2: ifnot 0 3; num 1 1; jump 0; ret 0", "0 1", "0 1", "1 2: ifnot 0 3; num 1 1; jump 0; ret 0"},
		{"1 4: num 3 7; ifnot 0 5; num 1 1; move 2 1; jump 1; ret 3", "0 1, 0 2, 0 3, 1 3, 2 3", "0 1 1 2", "1 3: num 2 7; ifnot 0 5; num 1 1; move 1 1; jump 1; ret 2"},
		// without an end
		{"1 2: num 1 1; jump 0", "", "0 0", "1 1: num 0 1; jump 0"}, {"2 2: jump 0", "0 1", "0 1", "2 2: jump 0"}, {"0 2: add 1 0 0; jump 0", "0 1", "0 1", "0 2: add 1 0 0; jump 0"},
	})
}

// The first In, registers that stand nowhere, and such as are never written.
func TestSlotsOfRegisters(t *testing.T) {
	slottedAll(t, []slotCase{
		{"0 0: jump 0", "", "", "0 0: jump 0"}, {"0 0: end; jump 0", "", "", "0 0: end; jump 0"},
		{"0 1: ret 0", "", "0", "0 1: ret 0"}, {"1 1: ret 0", "", "0", "1 1: ret 0"}, {"0 1: jump 0", "", "0", "0 1: jump 0"}, {"1 1: jump 0", "", "0", "1 1: jump 0"},
		{"2 2: jump 0", "0 1", "0 1", "2 2: jump 0"}, {"3 3: ret 0", "0 1, 0 2, 1 2", "0 1 2", "3 3: ret 0"}, {"3 3: ret 2", "0 1, 0 2, 1 2", "0 1 2", "3 3: ret 2"},
		{"2 3: num 2 5; ret 2", "0 1", "0 1 0", "2 2: num 0 5; ret 0"}, {"4 6: num 4 1; ret 4", "0 1, 0 2, 0 3, 1 2, 1 3, 2 3", "0 1 2 3 0 0", "4 4: num 0 1; ret 0"},
		// with one, and with none, that stands nowhere
		{"0 5: num 2 1; num 4 2; pair 2 2 4; ret 2", "2 4", "0 0 0 0 1", "0 2: num 0 1; num 1 2; pair 0 0 1; ret 0"}, {"0 3: num 2 1; ret 2", "", "0 0 0", "0 1: num 0 1; ret 0"}, {"0 4: jump 0", "", "0 0 0 0", "0 1: jump 0"}, {"2 5: ret 1", "0 1", "0 1 0 0 0", "2 2: ret 1"},
		// what is read and was not written lives from the first one on
		{"0 3: ret 2", "", "0 0 0", "0 1: ret 0"}, {"0 4: pair 3 1 2; ret 3", "1 2", "0 0 1 0", "0 2: pair 0 0 1; ret 0"}, {"0 3: num 0 5; pair 1 0 2; ret 1", "0 2", "0 0 1", "0 2: num 0 5; pair 0 0 1; ret 0"},
		{"1 2: pair 0 0 1; ret 0", "0 1", "0 1", "1 2: pair 0 0 1; ret 0"},
		// it clashes with what lives, and one of the first In that is never read does not
		{"1 2: ret 1", "", "0 0", "1 1: ret 0"}, {"2 3: pair 2 0 2; ret 2", "0 1, 0 2", "0 1 1", "2 2: pair 1 0 1; ret 1"},
	})
	for in := range 12 {
		p := impl.Piece{In: in, Regs: in + 1, Ins: []impl.Ins{{Op: impl.OpRet, X: in}}}
		clashes, slots := asPlainSlots(t, p)
		if len(clashes) != in*(in-1)/2 || slots[in] != 0 || impl.Pack(p).Regs != max(in, 1) || len(impl.Clashes(p)) != in*(in-1)/2 {
			t.Error(in, clashes, slots)
		}
	}
}

// The least slot that is free: beside each choice of those that are taken.
func TestSlotsAreTheLeastThatIsFree(t *testing.T) {
	slottedAll(t, []slotCase{
		{"3 4: num 3 1; make 3 9 0 2 3; ret 3", "0 1, 0 2, 0 3, 1 2, 2 3", "0 1 2 1", "3 3: num 1 1; make 1 9 0 2 1; ret 1"},
		// two slots would do, but not one register after the other
		{"0 4: num 0 1; num 2 2; pair 2 0 2; num 3 3; pair 3 2 3; num 1 4; pair 1 3 1; ret 1", "0 2, 1 3, 2 3", "0 0 1 2", "0 3: num 0 1; num 1 2; pair 1 0 1; num 2 3; pair 2 1 2; num 0 4; pair 0 2 0; ret 0"},
	})
	for taken := range 1 << 6 {
		p := impl.Piece{In: 6, Regs: 7, Ins: toldList("num 6 1; make 6 9 6; ret 6")}
		for reg := range 6 {
			if taken>>reg&1 == 1 {
				p.Ins[1].L = append(p.Ins[1].L, reg)
			}
		}
		free := 0
		for taken>>free&1 == 1 {
			free++
		}
		asPlainSlots(t, p)
		if got := impl.Slots(p); !slices.Equal(got, []int{0, 1, 2, 3, 4, 5, free}) {
			t.Errorf("%s: slots %v, not %d", pieceText(p), got, free)
		}
	}
	for _, in := range []int{1, 2, 63, 64, 65, 127, 128, 129, 192, 256, 384, 398, 399} {
		for _, free := range []int{0, 1, 62, 63, 64, 65, 127, 128, 200, 319, 320, 398, 399} {
			p := impl.Piece{In: in, Regs: in + 1, Ins: []impl.Ins{{Op: impl.OpNum, D: in}, {Op: impl.OpMake, L: []int{in}}, {Op: impl.OpRet}}}
			for reg := range in {
				if reg != free {
					p.Ins[1].L = append(p.Ins[1].L, reg)
				}
			}
			if got, want := impl.Slots(p), append(ownSlots(p)[:in], min(free, in)); !slices.Equal(got, want) {
				t.Errorf("In %d without %d: %v", in, free, got)
			}
		}
	}
}

// The most registers and instructions there may be.
func TestSlotsOfTheGreatest(t *testing.T) {
	t.Parallel()
	all := ownSlots(impl.Piece{Regs: 400})
	look := func(why string, p impl.Piece, pairs, regs int) {
		t.Helper()
		clashes, slots := asPlainSlots(t, p)
		if len(clashes) != pairs || len(impl.Clashes(p)) != pairs || len(slots) != p.Regs || impl.Pack(p).Regs != regs {
			t.Error(why, len(clashes), impl.Pack(p).Regs)
		}
	}
	// all live at once: written one by one, and read by one record
	p := impl.Piece{Regs: 400}
	for reg := range 400 {
		p.Ins = append(p.Ins, impl.Ins{Op: impl.OpNum, D: reg})
	}
	p.Ins = append(p.Ins, impl.Ins{Op: impl.OpMake, D: 399, L: all}, toldIns("ret 399"))
	look("all at once", p, 400*399/2, 400)
	if !slices.Equal(impl.Slots(p), all) {
		t.Error(impl.Slots(p))
	}
	// no two live at once
	p = impl.Piece{Regs: 400, Ins: toldList("num 0 1")}
	for at := range 598 {
		p.Ins = append(p.Ins, impl.Ins{Op: impl.OpMove, D: (at + 1) % 400, X: at % 400})
	}
	p.Ins = append(p.Ins, impl.Ins{Op: impl.OpRet, X: 598 % 400})
	look("no two at once", p, 0, 1)
	if !slices.Equal(impl.Slots(p), make([]int, 400)) {
		t.Error(impl.Slots(p))
	}
	// any two of the first In, none of which is read
	look("In 400", impl.Piece{In: 400, Regs: 400, Ins: slices.Repeat(toldList("jump 0"), 600)}, 400*399/2, 400)
	look("In 399", impl.Piece{In: 399, Regs: 400, Ins: toldList("ret 399")}, 399*398/2, 399)
	// each with the next one alone
	p = impl.Piece{Regs: 400, Ins: toldList("num 0 0")}
	for reg := range 299 {
		p.Ins = append(p.Ins, impl.Ins{Op: impl.OpNum, D: reg + 1}, impl.Ins{Op: impl.OpPair, D: reg + 1, X: reg, Y: reg + 1})
	}
	p.Ins = append(p.Ins, toldIns("ret 299"))
	look("each with the next one", p, 299, 2)
	// registers in no instruction
	look("none stands anywhere", impl.Piece{Regs: 400, Ins: slices.Repeat(toldList("jump 0"), 600)}, 0, 1)
	// what is never read, 599 times, beside one that lives
	p = impl.Piece{In: 1, Regs: 400}
	for at := range 599 {
		p.Ins = append(p.Ins, impl.Ins{Op: impl.OpNum, D: 1 + at%399})
	}
	p.Ins = append(p.Ins, toldIns("ret 0"))
	look("never read", p, 399, 2)
	// 300 OpTrys, each within the other, beside one that lives where each goes on
	p = impl.Piece{In: 1, Regs: 301}
	for n := range 300 {
		p.Ins = append(p.Ins, impl.Ins{Op: impl.OpTry, D: n + 1, To: 599})
	}
	p.Ins = append(p.Ins, slices.Repeat(toldList("end"), 299)...)
	p.Ins = append(p.Ins, toldIns("ret 0"))
	look("never raised", p, 300, 2)
}

// Slots that are right and other than those of Slots, and such as break one condition.
func TestSlotsOk(t *testing.T) {
	p := toldPiece("2 6: add 2 0 1; mul 3 2 0; pair 4 3 2; ret 4")
	clashes, _ := asPlainSlots(t, p)
	if !slices.Equal(clashes, toldPairs("0 1, 0 2, 2 3")) {
		t.Error("the test's own", clashes)
	}
	for told, faults := range map[string]string{
		"0 1 1 0 0 0": "", "0 1 2 3 4 5": "", "0 1 1 0 0 1": "", "0 1 1 0 1 0": "", "0 1 2 0 0 0": "", "0 1 1 2 2 2": "", "0 1 7 5 5 7": "", "0 1 5 4 3 2": "", "0 1 1000000 0 0 1000000": "", "0 1 399 400 401 9999999": "", "0 1 1 0 0 9223372036854775807": "", "0 1 9223372036854775807 9223372036854775806 1 1": "",
		// too few and too many
		"": "count", "0": "count", "0 1": "count", "0 1 1 0 0": "count", "0 1 1 0 0 0 0": "count", "0 1 2 3 4 5 6": "count", "0 1 1 0 0 0 -1": "count",
		// below 0
		"0 1 -1 0 0 0": "below 0", "0 1 1 -1 0 0": "below 0", "0 1 1 0 -1 0": "below 0", "0 1 1 0 0 -1": "below 0", "0 1 1 0 0 -9223372036854775808": "below 0", "0 1 -1 0 -1 -1": "below 0", "-1 1 2 0 0 0": "below 0, first", "0 -1 1 0 0 0": "below 0, first", "0 1 -1 -1 0 0": "below 0, shared",
		// two that clash
		"0 1 0 3 4 5": "shared", "0 1 2 2 4 5": "shared", "0 1 0 0 0 0": "shared", "0 1 1000000 1000000 0 0": "shared",
		// the first In
		"1 0 2 3 4 5": "first", "0 2 1 3 4 5": "first", "1 2 3 4 5 6": "first", "2 1 0 3 4 5": "first", "0 0 1 2 3 4": "first, shared", "1 1 0 2 3 4": "first, shared", "400 1 2 3 4 5": "first", "0 9223372036854775807 1 0 0 0": "first",
	} {
		slotsAre(t, told, p, clashes, toldNumbers(told), faults)
	}
	slotsAre(t, "nil", p, clashes, nil, "count")
	for _, regs := range []int{0, 1, 2} {
		none := impl.Piece{Regs: regs, Ins: toldList("jump 0")}
		for count := range 4 {
			faults := ""
			if count != regs {
				faults = "count"
			}
			slotsAre(t, "no In", none, nil, make([]int, count), faults)
		}
	}
	slotsAre(t, "no registers", toldPiece("0 0: jump 0"), nil, nil, "")
	slotsAre(t, "no registers", toldPiece("0 0: jump 0"), nil, []int{}, "")
}

// Of each two registers: with one slot where they clash, and where they do not.
func TestSlotsOkOfEachPair(t *testing.T) {
	t.Parallel()
	clashing, apart := 0, 0
	for _, p := range slices.Concat(triedPieces(700), piecesOfAll(anyCodes(200)), piecesOfAll(loweredCodes(t, 40))) {
		clashes, slots := asPlainSlots(t, p)
		for reg := range p.Regs {
			less := ownSlots(p)
			less[reg] = -1 - reg
			faults := "below 0"
			if reg < p.In {
				faults = "below 0, first"
			}
			slotsAre(t, "below 0", p, clashes, less, faults)
			for lesser := range reg {
				both := ownSlots(p)
				both[reg] = both[lesser]
				faults := ""
				if slices.Contains(clashes, [2]int{lesser, reg}) {
					faults = "shared"
					clashing++
				} else {
					apart++
				}
				if reg < p.In {
					faults = "first, shared"
				}
				slotsAre(t, "both one slot", p, clashes, both, faults)
			}
		}
		for reg := range slots {
			more := slices.Clone(slots)
			more[reg] += 1000
			faults := ""
			if reg < p.In {
				faults = "first"
			}
			slotsAre(t, "a greater one", p, clashes, more, faults)
		}
		slotsAre(t, "one more", p, clashes, append(slices.Clone(slots), 0), "count")
		if p.Regs > 0 {
			slotsAre(t, "one less", p, clashes, slots[1:], "count")
		}
	}
	if clashing < 5000 || apart < 3000 {
		t.Error("too few", clashing, apart)
	}
}

// Each choice of slots there is, of small Pieces: of all that are right those of Slots are the first, as they are the least one register after the other.
func TestSlotsAreTheFirstOfAllThatAreRight(t *testing.T) {
	t.Parallel()
	asked, right := 0, 0
	for _, p := range triedPieces(2500) {
		if p.Regs > 4 {
			continue
		}
		asked++
		clashes := plainClashes(p)
		var first []int
		choices := 1
		for range p.Regs {
			choices *= p.Regs + 2
		}
		for choice := range choices {
			slots := make([]int, p.Regs)
			left := choice
			for reg := range slots {
				slots[p.Regs-1-reg] = left%(p.Regs+2) - 1
				left /= p.Regs + 2
			}
			faults := strings.Join(slotFaults(p, clashes, slots), ", ")
			slotsAre(t, "chosen", p, clashes, slots, faults)
			if faults == "" {
				right++
				if first == nil {
					first = slots
				}
			}
		}
		if got := impl.Slots(p); !slices.Equal(got, first) {
			t.Errorf("%s: slots %v, not %v", pieceText(p), got, first)
		}
	}
	if asked < 500 || right < 5000 {
		t.Error("too few", asked, right)
	}
}

// Pieces of lowered programs, and Pieces by chance, against the test's own.
func TestSlotsByChance(t *testing.T) {
	t.Parallel()
	fewer, gaps, dead, tried := 0, 0, 0, 0
	for _, p := range slices.Concat(piecesOfAll(loweredCodes(t, 400)), piecesOfAll(anyCodes(1500)), triedPieces(4000)) {
		clashes, slots := asPlainSlots(t, p)
		if impl.Pack(p).Regs < p.Regs {
			fewer++
		}
		live := plainLive(p)
		for at, i := range p.Ins {
			w := plainWrites(i)
			if w >= 0 && at+1 < len(p.Ins) && len(live[at+1]) > 0 && !slices.Contains(live[at+1], w) {
				dead++
			}
			if i.Op == 17 && len(live[i.To]) > 0 && !slices.Contains(live[i.To], i.D) {
				tried++
			}
		}
		for _, pair := range clashes {
			if slots[pair[0]] > slots[pair[1]] {
				gaps++
			}
		}
	}
	if fewer < 2000 || gaps < 1000 || dead < 3000 || tried < 1000 {
		t.Error("too few", fewer, gaps, dead, tried)
	}
}

// Pairs: the lesser first, ascending, none twice, none of a register with itself.
func TestClashesAscend(t *testing.T) {
	t.Parallel()
	for _, p := range slices.Concat(triedPieces(1500), piecesOfAll(anyCodes(300))) {
		last := [2]int{-1, -1}
		for _, pair := range impl.Clashes(p) {
			if pair[0] >= pair[1] || pair[0] < 0 || pair[1] >= p.Regs || slices.Compare(last[:], pair[:]) >= 0 {
				t.Errorf("%s: clashes %v", pieceText(p), impl.Clashes(p))
				break
			}
			last = pair
		}
	}
}

// Pieces of Progs of each kind, by hand.
func TestSlotsOfLoweredProgs(t *testing.T) {
	for text, told := range map[string]string{
		"main n 5": "main 1: num 0 5; ret 0", "main let x n 1 n 2": "main 1: num 0 1; num 0 2; ret 0", "main let x n 1 let y n 2 pair v y v x": "main 2: num 0 1; num 1 2; pair 0 1 0; ret 0",
		"main if t n 1 n 2":                          "main 1: bool 0 1; ifnot 0 5; num 0 1; move 0 0; jump 7; num 0 2; move 0 0; ret 0",
		"main case h r nil n 1 v h":                  "main 2: nil 0; ifnil 0 6; first 1 0; second 0 0; move 0 1; jump 8; num 0 1; move 0 0; ret 0",
		"main try e n 1 v e":                         "main 1: try 0 5; num 0 1; end; move 0 0; jump 6; move 0 0; ret 0",
		"fun 4 0 x v x | main call 1 4 make 4 0 n 8": "fun 4 1 1: ret 0 | main 2: make 0 4; num 1 8; call 0 0 1 4; ret 0",
		"fun 3 1 k x op + v x v k | main let k n 5 let f make 3 1 k call 1 3 v f n 2": "fun 3 2 2: add 0 1 0; ret 0 | main 2: num 0 5; make 0 3 0; num 1 2; call 0 0 1 3; ret 0",
		// the number of the raise beside x, and alone
		"main let x n 1 try e raise n 5 pair v x v e": "main 2: num 0 1; try 1 8; num 1 5; raise 1; num 0 0; end; move 0 0; jump 10; pair 0 0 1; move 0 0; ret 0",
		"main let x n 1 try e raise n 5 v x":          "main 2: num 0 1; try 1 8; num 1 5; raise 1; num 0 0; end; move 0 0; jump 9; move 0 0; ret 0",
	} {
		c := plainLower(toldProg(text))
		want := toldCode(told)
		if own := plainPackAll(c); !equalCodes(own, want) {
			t.Errorf("the test's own: %s: %s, not %s", text, codeText(own), codeText(want))
		}
		if got := impl.PackAll(c); !equalCodes(got, want) {
			t.Errorf("%s: %s, not %s", text, codeText(got), codeText(want))
		}
		endsPacked(t, c, 500)
		keepsWhatLives(t, c, 500)
	}
}

// Each Op: its registers by their slots, and nothing else; a number that is no register stays, also where it could be one.
func TestPackOfEachOp(t *testing.T) {
	met := map[int]bool{}
	for _, c := range [][2]string{
		{"num 4 3", "num 1 3"}, {"num 5 -4", "num 2 -4"}, {"bool 5 1", "bool 2 1"}, {"nil 3", "nil 0"}, {"nil 4", "nil 1"}, {"move 4 5", "move 1 2"}, {"move 3 3", "move 0 0"},
		{"add 5 4 3", "add 2 1 0"}, {"sub 3 4 5", "sub 0 1 2"}, {"mul 4 4 5", "mul 1 1 2"}, {"less 5 3 3", "less 2 0 0"}, {"same 3 5 4", "same 0 2 1"}, {"pair 5 4 3", "pair 2 1 0"}, {"cons 3 5 4", "cons 0 2 1"},
		{"make 5 9 4 3 4 5", "make 2 9 1 0 1 2"}, {"make 4 3 5", "make 1 3 2"}, {"make 5 4", "make 2 4"}, {"make 3 5 3 3", "make 0 5 0 0"}, {"first 5 4", "first 2 1"}, {"second 4 3", "second 1 0"},
		{"ifnot 4 4", "ifnot 1 4"}, {"ifnot 3 5", "ifnot 0 5"}, {"ifnil 5 3", "ifnil 2 3"}, {"jump 4", "jump 4"}, {"jump 5", "jump 5"}, {"call 5 4 3 3 4 5", "call 2 1 0 3 4 5"}, {"call 3 5 4", "call 0 2 1"}, {"call 4 3 5 4", "call 1 0 2 4"},
		{"ret 4", "ret 1"}, {"raise 5", "raise 2"}, {"try 4 5", "try 1 5"}, {"try 5 3", "try 2 3"}, {"end", "end"},
	} {
		p := toldPiece("0 8: num 3 1; num 4 2; num 5 3; end; make 3 9 3 4 5; ret 3")
		want := toldPiece("0 3: num 0 1; num 1 2; num 2 3; end; make 0 9 0 1 2; ret 0")
		p.Ins[3], want.Ins[3] = toldIns(c[0]), toldIns(c[1])
		met[p.Ins[3].Op] = true
		slotted(t, p, toldPairs("3 4, 3 5, 4 5"), toldNumbers("0 0 0 0 1 2 0 0"), want)
		asPlainSlots(t, p)
		got := impl.Pack(p).Ins[3]
		if impl.InsText(got) != plainInsText(want.Ins[3]) {
			t.Errorf("%s: %s, not %s", c[0], impl.InsText(got), c[1])
		}
		for _, field := range "DXYNT" {
			if !strings.ContainsRune(opFields[got.Op], field) && *fieldAt(&got, field) != 0 {
				t.Errorf("%s: %c is %d", c[0], field, *fieldAt(&got, field))
			}
		}
		if !strings.Contains(opFields[got.Op], "L") && len(got.L) != 0 {
			t.Errorf("%s: L is %v", c[0], got.L)
		}
	}
	if len(met) != 18 {
		t.Error("the test's own", met)
	}
	// whose Piece it is stays, and no Lam is asked for
	for _, lam := range []int{math.MinInt, -2, -1, 0, 3, 149, 150, math.MaxInt} {
		for in := range 3 {
			p := impl.Piece{Lam: lam, In: in, Regs: 4, Ins: toldList("make 3 7 0 1; call 2 3 0; ret 2")}
			p.Ins[0].N = lam
			p.Ins[1].L = []int{lam, 3, lam}
			asPlainSlots(t, p)
			if got := impl.Pack(p); got.Lam != lam || got.In != in || got.Regs != 2 || got.Ins[0].N != lam || !slices.Equal(got.Ins[1].L, []int{lam, 3, lam}) {
				t.Error(pieceText(p), got)
			}
		}
	}
}

// Packed it never has more registers, nor packed again.
func TestPackAgain(t *testing.T) {
	t.Parallel()
	for _, p := range slices.Concat(piecesOfAll(loweredCodes(t, 100)), triedPieces(1000)) {
		packed := impl.Pack(p)
		if packed.Regs > p.Regs || packed.Regs < p.In || len(packed.Ins) != len(p.Ins) || packed.Lam != p.Lam || packed.In != p.In {
			t.Errorf("%s: packed to %s", pieceText(p), pieceText(packed))
		}
		if again := impl.Pack(packed); again.Regs > packed.Regs {
			t.Errorf("%s: packed to %s", pieceText(packed), pieceText(again))
		}
		asPlainSlots(t, packed)
	}
}

// What follows: packed it runs the same, with each fuel.
func TestPackedCodeEndsTheSame(t *testing.T) {
	t.Parallel()
	values, raises, fuels, caught, moved := 0, 0, 0, 0, 0
	for _, c := range loweredCodes(t, 300) {
		end, w := endsPacked(t, c, 150)
		moved += keepsWhatLives(t, c, 100)
		switch end.End {
		case impl.EndValue:
			values++
		case impl.EndRaise:
			raises++
		case impl.EndFuel:
			fuels++
		}
		if w.caught > 0 {
			caught++
		}
	}
	if values < 300 || raises < 100 || fuels < 5 || caught < 60 || moved < 20000 {
		t.Error("too few", values, raises, fuels, caught, moved)
	}
}

// Code that jumps about, as long as each raise goes on at its Guard, and no Fun reads what it neither wrote nor was handed.
func TestPackedCodeByChanceEndsTheSame(t *testing.T) {
	t.Parallel()
	even, values, moved := 0, 0, 0
	for _, c := range anyCodes(6000) {
		if !evenRaises(c, 60) {
			packedAll(t, c)
			continue
		}
		even++
		if end, _ := endsPacked(t, c, 60); end.End == impl.EndValue {
			values++
		}
		moved += keepsWhatLives(t, c, 60)
	}
	if even < 1000 || values < 100 || moved < 1000 {
		t.Error("too few", even, values, moved)
	}
}

// Whole programs by their texts, at every fuel up to enough.
func TestPackedProgramsEndTheSame(t *testing.T) {
	t.Parallel()
	for text, want := range map[string]string{
		"fix f 0 f i i fn x i if op < v x 0 n 1 n 0 op + v x 0 app v f 0 op - v x 0 n 1 app v f 0 n 10":                                                                                                              "55",
		"fix map 0 f f i i f l i l i fn f f i i fn l l i case h r v l 0 nil i cons app v f 0 v h 0 app app v map 0 v f 0 v r 0 let k 0 n 7 app app v map 0 fn z i op * v z 0 v k 0 cons n 1 cons n 2 cons n 3 nil i": "[7,14,21]",
		"fix f 0 f i i fn x i if op < v x 0 n 1 raise i n 9 app v f 0 op - v x 0 n 1 try e app v f 0 n 3 op + v e 0 n 1":                                                                                             "10",
		"fix f 0 f i i fn x i try e if op < v x 0 n 1 raise i n 9 app v f 0 op - v x 0 n 1 raise i op + v e 0 n 1 app v f 0 n 3":                                                                                     "raise 13",
		"let a 0 n 1 let b 0 n 2 let c 0 n 3 try e let d 0 op + v a 0 v b 0 if op < v d 0 v c 0 v d 0 raise i v d 0 op + v e 0 op * v a 0 v c 0":                                                                     "6",
		"let l 0 cons n 4 cons n 5 nil i case h r v l 0 n 0 case g s v r 0 v h 0 op - v h 0 v g 0":                                                                                                                   "-1",
		"try e op * n 1000000 n 2 v e 0": "-1", "raise i n 7": "raise 7", "let x 0 pair n 1 t if snd v x 0 fst v x 0 n 2": "1", "fix f 0 f i i fn x i app v f 0 v x 0 app v f 0 n 3": "fuel",
	} {
		p := asPlainDefun(t, parsedUnlike(t, text))
		c := asPlainLower(t, p)
		end, w := endsPacked(t, c, 1200)
		if told := impl.RunCode(impl.PackAll(c), impl.MaxFuel); !impl.SameEnd(told, ends(want)) || want != "fuel" && (told != ends(want) || end != told) {
			t.Errorf("%s: %v, not %s", text, told, want)
		}
		if fewer := impl.PackAll(c).Main.Regs; fewer > c.Main.Regs || w.steps == 0 {
			t.Error(text, fewer)
		}
		keepsWhatLives(t, c, 300)
	}
}

// parsedUnlike is the term of this text, each binder with a name of its own.
func parsedUnlike(t *testing.T, text string) impl.Term {
	t.Helper()
	own, ok := impl.Unlike(parsedTerm(t, text))
	if !ok {
		t.Fatal(text)
	}
	return own
}

// Each condition of a right Piece, broken alone.
func TestSlotsOfWhatIsNotRight(t *testing.T) {
	asPlainSlots(t, toldPiece(triedText))
	notSlotted(t, "zero", impl.Piece{}, "no ins")
	for _, c := range wrongPieces() {
		notSlotted(t, c.why, c.p, c.faults)
		c.p.Lam = -1
		notPackedAll(t, c.why, impl.Code{Main: c.p})
	}
}

// notPackedAll fails when PackAll of what is not CodeOk is anything but itself.
func notPackedAll(t *testing.T, why string, c impl.Code) {
	t.Helper()
	kept := evenCode(c)
	if len(codeFaults(c)) == 0 {
		t.Errorf("the test's own: %s", why)
	}
	if got := impl.PackAll(c); !reflect.DeepEqual(evenCode(got), kept) {
		t.Errorf("%s: packed to %s, not %s", why, codeText(got), codeText(c))
	}
}

// Each change of each instruction and each Piece of a Code: right Pieces are packed though their Code is not right, but not by PackAll.
func TestPackOfEachChange(t *testing.T) {
	t.Parallel()
	alone, pieceAlone := map[string]int{}, map[string]int{}
	right, rightPieces := 0, 0
	look := func(why string, c impl.Code, at int) {
		p := *piecesOf(&c)[at]
		if faults := pieceFaults(p); len(faults) == 0 {
			rightPieces++
			asPlainSlots(t, p)
		} else {
			notSlotted(t, why, p, strings.Join(faults, ", "))
			if len(faults) == 1 {
				pieceAlone[faults[0]]++
			}
		}
		faults := codeFaults(c)
		if len(faults) == 0 {
			right++
			packedAll(t, c)
			return
		}
		notPackedAll(t, why, c)
		if len(faults) == 1 {
			alone[faults[0]]++
		}
	}
	whole := fullerCode()
	packedAll(t, whole)
	if equalCodes(impl.PackAll(whole), whole) {
		t.Error("the test's own: nothing to pack")
	}
	for at, p := range piecesOf(&whole) {
		for place := range p.Ins {
			for why, change := range insChanges() {
				c := fullerCode()
				change(&piecesOf(&c)[at].Ins[place])
				look(fmt.Sprint(why, " at ", place, " of ", at), c, at)
			}
		}
		for why, change := range pieceChanges() {
			c := fullerCode()
			change(piecesOf(&c)[at])
			look(fmt.Sprint(why, " of ", at), c, at)
		}
	}
	turned := fullerCode()
	slices.Reverse(turned.Funs)
	look("turned", turned, 0)
	many := fullerCode()
	many.Funs = slices.Repeat(many.Funs[2:], 201)
	look("201 Funs", many, 0)
	pieceOnly := []string{"regs", "no ins", "many ins", "last", "op", "field D", "field X", "field Y", "field N", "field T", "field L", "to", "register D", "register X", "register Y", "register L", "number"}
	for _, fault := range append([]string{"in"}, pieceOnly...) {
		if pieceAlone[fault] == 0 {
			t.Errorf("%q is never alone in a Piece", fault)
		}
	}
	for _, fault := range append([]string{"lam", "lam order", "in", "main lam", "main in", "count", "no fun", "no fun in L", "order of L"}, pieceOnly...) {
		if alone[fault] == 0 {
			t.Errorf("%q is never alone", fault)
		}
	}
	if right < 300 || rightPieces < 300 {
		t.Error("too few", right, rightPieces)
	}
}

// PackAll packs each Piece by itself: as Pack does.
func TestPackAllIsPackOfEach(t *testing.T) {
	t.Parallel()
	for _, c := range slices.Concat(anyCodes(400), loweredCodes(t, 60)) {
		got := packedAll(t, c)
		if len(got.Funs) != len(c.Funs) || !equalPieces(got.Main, impl.Pack(c.Main)) {
			t.Error(codeText(c))
		}
		for at, p := range c.Funs {
			if !equalPieces(got.Funs[at], impl.Pack(p)) {
				t.Error(codeText(c))
			}
		}
	}
	// as many Funs as there may be
	c := toldCode("main 3: num 1 1; num 2 2; pair 1 1 2; ret 1")
	for lam := range 150 {
		c.Funs = append(c.Funs, impl.Piece{Lam: lam, In: 1, Regs: 3, Ins: toldList("num 1 1; pair 2 1 0; ret 2")})
	}
	got := packedAll(t, c)
	if len(got.Funs) != 150 || got.Funs[149].Regs != 2 || got.Main.Regs != 2 || impl.Count(got) != impl.Count(c) {
		t.Error(codeText(got))
	}
	c.Funs = append(c.Funs, impl.Piece{Lam: 150, In: 1, Regs: 3, Ins: toldList("num 1 1; pair 2 1 0; ret 2")})
	notPackedAll(t, "Lam 150", c)
}

// slotsFor are slots of all sorts for a Piece, right and wrong.
func slotsFor(p impl.Piece) [][]int {
	slots := impl.Slots(p)
	all := [][]int{nil, slots, ownSlots(p), make([]int, len(slots)), append(slices.Clone(slots), 0)}
	if len(slots) > 0 {
		less := ownSlots(p)
		less[len(less)-1] = -1
		turned := ownSlots(p)
		slices.Reverse(turned)
		all = append(all, slots[1:], less, turned)
	}
	return all
}

func TestSlotArgumentsStay(t *testing.T) {
	t.Parallel()
	for _, p := range liveArguments() {
		roomy := roomyPiece(p)
		kept := fullPiece(roomy)
		impl.Clashes(roomy)
		impl.Slots(roomy)
		impl.Pack(roomy)
		for _, slots := range slotsFor(p) {
			list := roomyLists([][]int{slots})[0]
			keptList := slices.Clone(list[:cap(list)])
			impl.SlotsOk(roomy, list)
			if !slices.Equal(list[:cap(list)], keptList) {
				t.Fatal("slots were written to", slots)
			}
		}
		if !reflect.DeepEqual(fullPiece(roomy), kept) {
			t.Fatal("an argument was written to", pieceText(p))
		}
	}
	for _, c := range codeArguments() {
		roomy := roomyCode(c)
		kept := fullCode(roomy)
		impl.PackAll(roomy)
		if !reflect.DeepEqual(fullCode(roomy), kept) {
			t.Fatal("an argument was written to", codeText(c))
		}
	}
}

// What lies behind a list's length is not there.
func TestSlotSpareRoomIsNotRead(t *testing.T) {
	t.Parallel()
	for _, p := range liveArguments() {
		roomy := roomyPiece(p)
		if !slices.Equal(impl.Clashes(roomy), impl.Clashes(p)) || !slices.Equal(impl.Slots(roomy), impl.Slots(p)) || !equalPieces(impl.Pack(roomy), impl.Pack(p)) {
			t.Error(pieceText(p))
		}
		for _, slots := range slotsFor(p) {
			if impl.SlotsOk(roomy, roomyLists([][]int{slots})[0]) != impl.SlotsOk(p, slots) {
				t.Error(pieceText(p), slots)
			}
		}
	}
	for _, c := range codeArguments() {
		if !equalCodes(impl.PackAll(roomyCode(c)), impl.PackAll(c)) {
			t.Error(codeText(c))
		}
	}
}

func pairPlaces(pairs [][2]int) []any {
	var places []any
	room := pairs[:cap(pairs)]
	for at := range room {
		places = append(places, &room[at])
	}
	return places
}

func TestSlotAnswersAreNewMemory(t *testing.T) {
	t.Parallel()
	for _, p := range liveArguments() {
		roomy := roomyPiece(p)
		given := codePlaces(impl.Code{Main: roomy})
		ownPlaces(t, "Clashes of "+pieceText(p), append(pairPlaces(impl.Clashes(roomy)), pairPlaces(impl.Clashes(roomy))...), given)
		ownPlaces(t, "Slots of "+pieceText(p), append(intPlaces(impl.Slots(roomy)), intPlaces(impl.Slots(roomy))...), given)
		ownPlaces(t, "Pack of "+pieceText(p), append(codePlaces(impl.Code{Main: impl.Pack(roomy)}), codePlaces(impl.Code{Main: impl.Pack(roomy)})...), given)
	}
	for _, c := range codeArguments() {
		roomy := roomyCode(c)
		ownPlaces(t, "PackAll of "+codeText(c), append(codePlaces(impl.PackAll(roomy)), codePlaces(impl.PackAll(roomy))...), codePlaces(roomy))
	}
	// one list at many places, of what is right and what is not
	regs, lams, ret := []int{0, 1}, []int{3, 7}, toldList("ret 0")
	ins := []impl.Ins{{Op: impl.OpMake, D: 2, N: 3, L: regs}, {Op: impl.OpMake, D: 2, N: 3, L: regs}, {Op: impl.OpCall, D: 2, X: 2, L: lams}, {Op: impl.OpCall, D: 2, X: 2, L: lams}, {Op: impl.OpRet, X: 2}}
	right := impl.Code{Funs: []impl.Piece{{Lam: 3, In: 3, Regs: 3, Ins: ins}, {Lam: 7, In: 2, Regs: 3, Ins: ins}}, Main: impl.Piece{Lam: -1, Regs: 3, Ins: ins}}
	wrong := impl.Code{Funs: []impl.Piece{{Lam: 3, In: 3, Regs: 3, Ins: ins}, {Lam: 7, In: 2, Regs: 3, Ins: ret}}, Main: impl.Piece{Lam: 5, Regs: 3, Ins: ins}}
	codeIs(t, "shared", right, "")
	codeIs(t, "shared", wrong, "main lam")
	badIns := append(slices.Clone(ins[:4]), impl.Ins{Op: impl.OpEnd, L: regs})
	bad := impl.Piece{Regs: 3, Ins: badIns}
	for why, c := range map[string]impl.Code{"right": right, "wrong": wrong, "bad": {Main: bad, Funs: []impl.Piece{bad, bad}}} {
		first, second := impl.PackAll(c), impl.PackAll(c)
		ownPlaces(t, why, append(codePlaces(first), codePlaces(second)...), codePlaces(impl.Code{Main: c.Main}), codePlaces(c))
		for _, p := range piecesOf(&first) {
			for at := range p.Ins {
				for n := range p.Ins[at].L {
					p.Ins[at].L[n] = 99
				}
				p.Ins[at].Op = 77
			}
		}
		if !equalCodes(impl.PackAll(c), second) {
			t.Error(why, "is other than it was")
		}
	}
	ownPlaces(t, "bad", codePlaces(impl.Code{Main: impl.Pack(bad)}), codePlaces(impl.Code{Main: bad}))
	if !slices.Equal(regs, []int{0, 1}) || !slices.Equal(lams, []int{3, 7}) || ins[0].Op != impl.OpMake {
		t.Error("an argument was written to", regs, lams, ins)
	}
}

// Nothing is kept from one call to another.
func TestSlotsKeepNothing(t *testing.T) {
	pieces := triedPieces(300)
	var clashes [][][2]int
	var slots [][]int
	var packed []impl.Piece
	for _, p := range pieces {
		clashes = append(clashes, impl.Clashes(p))
		slots = append(slots, impl.Slots(p))
		packed = append(packed, impl.Pack(p))
	}
	for at, p := range slices.Backward(pieces) {
		impl.Clashes(impl.Piece{})
		impl.Pack(impl.Piece{In: -1})
		impl.SlotsOk(pieces[len(pieces)-1-at], slots[at])
		if !slices.Equal(impl.Clashes(p), clashes[at]) || !slices.Equal(impl.Slots(p), slots[at]) || !equalPieces(impl.Pack(p), packed[at]) || !impl.SlotsOk(p, slots[at]) {
			t.Error(pieceText(p))
		}
	}
}

// Slots by chance, most of which break something.
func TestSlotsOkByChance(t *testing.T) {
	t.Parallel()
	r := rand.New(rand.NewSource(73))
	met := map[string]int{}
	for _, p := range slices.Concat(triedPieces(2500), piecesOfAll(anyCodes(300))) {
		clashes := plainClashes(p)
		least := plainSlots(p.Regs, clashes)
		for range 8 {
			slots := slices.Clone(least)
			switch r.Intn(6) {
			case 0:
				slots = append(slots, r.Intn(3))
			case 1:
				slots = slots[:max(len(slots)-1, 0)]
			default:
				for range 1 + r.Intn(3) {
					if len(slots) > 0 {
						slots[r.Intn(len(slots))] = r.Intn(len(slots)+3) - 1
					}
				}
			}
			faults := strings.Join(slotFaults(p, clashes, slots), ", ")
			met[faults]++
			slotsAre(t, "by chance", p, clashes, slots, faults)
		}
	}
	for _, faults := range []string{"", "count", "below 0", "first", "shared"} {
		if met[faults] < 100 {
			t.Error("too few", faults, met)
		}
	}
}
