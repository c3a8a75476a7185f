package tests

import (
	"fmt"
	"math"
	"reflect"
	"slices"
	"strconv"
	"strings"
	"sync"
	"testing"

	"loop.example/g00187/impl"
)

func TestBlocksOfStraightCode(t *testing.T) {
	blockedCases(t, []blockCase{
		// one instruction
		{"1 1: ret 0", "0", "0", "-", "0", 1}, {"0 1: ret 0", "0", "0", "-", "0", 1}, {"0 0: jump 0", "0", "0", "0", "0", 0},
		{"0 1: num 0 5; ret 0", "0", "0 0", "-", "0, 0 1", 1},
		{"2 3: add 2 0 1; ret 2", "0", "0 0", "-", "0, 0 1", 2},
		{"0 1: num 0 1; end; ret 0", "0", "0 0 0", "-", "0, 0 1, 0 1 2", 1},
		// each that ends no block; without an OpTry none of them goes on but at the next one
		{"0 4: num 0 1; bool 1 1; nil 2; pair 3 0 1; cons 3 3 2; move 2 3; first 1 2; second 0 2; make 3 9 0 1; mul 3 0 0; end; ret 3", "0", "0 0 0 0 0 0 0 0 0 0 0 0", "-", "0, 0 1, 0 1 2, 0 1 2 3, 0 1 2 3 4, 0 1 2 3 4 5, 0 1 2 3 4 5 6, 0 1 2 3 4 5 6 7, 0 1 2 3 4 5 6 7 8, 0 1 2 3 4 5 6 7 8 9, 0 1 2 3 4 5 6 7 8 9 10, 0 1 2 3 4 5 6 7 8 9 10 11", 3},
	})
}

func TestBlocksEnd(t *testing.T) {
	blockedCases(t, []blockCase{
		{"1 2: call 1 0 0 9; ret 1", "0 1", "0 1", "1, -", "0, 0 1", 1},
		{"2 3: call 2 0 1 5 6; call 2 2 0; add 2 2 2; ret 2", "0 1 2", "0 1 2 2", "1, 2, -", "0, 0 1, 0 1 2, 0 1 2 3", 2},
		{"1 2: raise 0; num 1 0; ret 1", "0 1", "0 1 1", "-, -", "0, -, -", 1},
		{"1 1: ret 0; ret 0", "0 1", "0 1", "-, -", "0, -", 1},
		{"1 1: ret 0; num 0 1; ret 0; jump 1", "0 1 3", "0 1 1 2", "-, -, 1", "0, -, -, -", 1},
		// what is behind is where it leads to as well
		{"0 2: try 1 1; num 0 2; end; ret 0", "0 1", "0 1 1 1", "1, -", "0, 0 1, 0 1 2, 0 1 2 3", 1},
		{"0 1: jump 1; ret 0", "0 1", "0 1", "1, -", "0, 0 1", 1}, {"1 1: ifnot 0 1; ret 0", "0 1", "0 1", "1, -", "0, 0 1", 1}, {"1 1: ifnil 0 1; ret 0", "0 1", "0 1", "1, -", "0, 0 1", 1},
	})
}

func TestBlocksOfIfs(t *testing.T) {
	blockedCases(t, []blockCase{
		// two ways that meet again: one goes over what the other does
		{"0 2: bool 0 1; ifnot 0 4; num 1 7; jump 5; num 1 8; ret 1", "0 2 4 5", "0 0 1 1 2 3", "1 2, 3, 3, -", "0, 0 1, 0 1 2, 0 1 2 3, 0 1 4, 0 1 5", 1},
		{"1 5: ifnil 0 5; first 3 0; second 4 0; cons 2 3 4; jump 6; move 2 0; ret 2", "0 1 5 6", "0 1 1 1 1 2 3", "1 2, 3, 3, -", "0, 0 1, 0 1 2, 0 1 2 3, 0 1 2 3 4, 0 5, 0 6", 2},
		{"1 1: ifnot 0 3; num 0 1; ret 0; num 0 2; ret 0", "0 1 3", "0 1 1 2 2", "1 2, -, -", "0, 0 1, 0 1 2, 0 3, 0 3 4", 1},
		// one runs into what the other leads to
		{"2 3: ifnot 0 3; ifnot 1 3; num 2 1; num 2 2; ret 2", "0 1 2 3", "0 1 2 3 3", "1 3, 2 3, 3, -", "0, 0 1, 0 1 2, 0 3, 0 3 4", 2},
		{"2 3: ifnot 0 4; ifnil 1 5; num 2 1; jump 6; num 2 2; num 2 3; ret 2", "0 1 2 4 5 6", "0 1 2 2 3 4 5", "1 3, 2 4, 5, 4, 5, -", "0, 0 1, 0 1 2, 0 1 2 3, 0 4, 0 5, 0 6", 2},
	})
}

func TestBlocksOfLoops(t *testing.T) {
	blockedCases(t, []blockCase{
		// a block that goes on at itself
		{"1 1: ifnot 0 0; ret 0", "0 1", "0 1", "0 1, -", "0, 0 1", 1}, {"0 1: num 0 1; jump 0", "0", "0 0", "0", "0, 0 1", 0}, {"0 1: num 0 1; jump 1", "0 1", "0 1", "1, 1", "0, 0 1", 0},
		{"1 1: ifnil 0 2; jump 0; ret 0", "0 1 2", "0 1 2", "1 2, 0, -", "0, 0 1, 0 2", 1},
		{"1 5: num 1 0; num 2 1; less 3 0 2; ifnot 3 5; ret 1; add 1 1 0; sub 0 0 2; jump 2", "0 2 4 5", "0 0 1 1 2 3 3 3", "1, 2 3, -, 1", "0, 0 1, 0 1 2, 0 1 2 3, 0 1 2 3 4, 0 1 2 3 5, 0 1 2 3 5 6, 0 1 2 3 5 6 7", 4},
		// one within the other
		{"1 1: num 0 1; add 0 0 0; ifnot 0 1; ifnil 0 0; ret 0", "0 1 3 4", "0 1 1 2 3", "1, 1 2, 0 3, -", "0, 0 1, 0 1 2, 0 1 2 3, 0 1 2 3 4", 1},
		// what is behind may be ahead on each way
		{"1 2: jump 3; move 1 0; ret 1; move 0 1; jump 1", "0 1 3", "0 1 1 2 2", "2, -, 1", "0, 0 1 3 4, 0 1 2 3 4, 0 3, 0 3 4", 1},
		{"0 1: jump 5; ret 0; jump 1; jump 2; jump 3; jump 4", "0 1 2 3 4 5", "0 1 2 3 4 5", "5, -, 1, 2, 3, 4", "0, 0 1 2 3 4 5, 0 2 3 4 5, 0 3 4 5, 0 4 5, 0 5", 1},
		// a loop with two ways in: neither is ahead of the other
		{"1 1: ifnot 0 3; num 0 1; jump 4; num 0 2; ifnil 0 1; jump 3", "0 1 3 4 5", "0 1 1 2 3 4", "1 2, 3, 3, 1 4, 2", "0, 0 1, 0 1 2, 0 3, 0 4, 0 4 5", 1},
		// one that nobody meets leads into one that is met
		{"0 1: jump 2; num 0 1; jump 0; jump 1", "0 1 2 3", "0 1 2 3", "2, 2, 0, 1", "0, -, 0 2, -", 0},
	})
}

func TestBlocksOfRaises(t *testing.T) {
	blockedCases(t, []blockCase{
		// the Guard of one within the block is another
		{"1 3: try 1 4; add 2 0 0; end; ret 2; ret 1", "0 1 4", "0 1 1 1 2", "1, 2, -", "0, 0 1, 0 1 2, 0 1 2 3, 0 1 4", 1},
		{"1 3: try 1 7; add 0 0 0; add 0 0 0; ifnot 0 6; first 0 0; end; ret 0; ret 1", "0 1 4 6 7", "0 1 1 1 2 2 3 4", "1, 2 3 4, 3 4, -, -", "0, 0 1, 0 1 2, 0 1 2 3, 0 1 2 3 4, 0 1 2 3 4 5, 0 1 2 3 6, 0 1 7", 1},
		{"1 2: try 1 4; raise 0; end; ret 0; ret 1", "0 1 2 4", "0 1 2 2 3", "1, 3, -, -", "0, 0 1, -, -, 0 1 4", 1},
		{"1 3: try 1 5; call 2 0 0 9; end; ret 2; raise 1; ret 0", "0 1 2 4 5", "0 1 2 2 3 4", "1, 2 4, -, -, -", "0, 0 1, 0 1 2, 0 1 2 3, -, 0 1 5", 1},
		{"1 2: try 1 4; ifnil 0 3; ret 0; ret 0; ret 1", "0 1 2 3 4", "0 1 2 3 4", "1, 2 3 4, -, -, -", "0, 0 1, 0 1 2, 0 1 3, 0 1 4", 1},
		// no OpTry goes on at its To; nor does what stands behind an OpEnd
		{"1 3: try 1 5; num 2 1; end; add 2 0 0; ret 2; ret 1", "0 1 5", "0 1 1 1 1 2", "1, -, -", "0, 0 1, 0 1 2, 0 1 2 3, 0 1 2 3 4, -", 1},
		// the very next instruction
		{"0 3: num 0 5; try 1 3; add 2 0 0; pair 2 1 2; ret 2", "0 2 3", "0 0 1 2 2", "1, 2, -", "0, 0 1, 0 1 2, 0 1 2 3, 0 1 2 3 4", 3},
		{"1 2: try 1 3; first 0 0; second 0 0; ret 1", "0 1 3", "0 1 1 2", "1, 2, -", "0, 0 1, 0 1 2, 0 1 3", 2},
		{"1 2: try 1 2; raise 0; ret 1", "0 1 2", "0 1 2", "1, 2, -", "0, 0 1, 0 1 2", 1}, {"1 2: try 1 3; jump 2; call 0 0 0; ret 0", "0 1 2 3", "0 1 2 3", "1, 2, 3, -", "0, 0 1, 0 1 2, 0 1 2 3", 1},
		// the block itself, and one ahead of it
		{"1 2: try 1 1; add 0 0 0; add 0 0 0; end; ret 0", "0 1", "0 1 1 1 1", "1, 1", "0, 0 1, 0 1 2, 0 1 2 3, 0 1 2 3 4", 1},
		{"1 2: try 1 1; ifnil 0 3; ret 0; ret 0; ret 1", "0 1 2 3 4", "0 1 2 3 4", "1, 1 2 3, -, -, -", "0, 0 1, 0 1 2, 0 1 3, -", 1},
		{"1 2: num 1 0; try 0 0; raise 1; ret 0", "0 2 3", "0 0 1 2", "1, 0, -", "0, 0 1, 0 1 2, -", 1},
		// one within the other
		{"1 3: try 1 6; try 2 5; add 0 0 0; end; ret 0; ret 2; ret 1", "0 1 2 5 6", "0 1 2 2 2 3 4", "1, 2, 3, -, -", "0, 0 1, 0 1 2, 0 1 2 3, 0 1 2 3 4, 0 1 2 5, -", 1},
		{"1 3: try 1 7; try 2 6; raise 0; end; end; ret 0; raise 2; ret 1", "0 1 2 3 6 7", "0 1 2 3 3 3 4 5", "1, 2, 4, -, -, -", "0, 0 1, 0 1 2, -, -, -, 0 1 2 6, -", 1},
		// an OpTry that nobody meets guards as well
		{"1 2: jump 2; try 1 4; add 0 0 0; ret 0; num 0 9; ret 1", "0 1 2 4", "0 1 2 2 3 3", "2, 2, 3, -", "0, -, 0 2, 0 2 3, 0 2 4, 0 2 4 5", 1},
	})
}

func TestPressure(t *testing.T) {
	blockedCases(t, []blockCase{
		// nothing lives
		{"0 0: end; jump 0", "0", "0 0", "0", "0, 0 1", 0}, {"0 400: jump 0", "0", "0", "0", "0", 0}, {"3 3: num 0 1; jump 0", "0", "0 0", "0", "0, 0 1", 3},
		// In is more than what lives
		{"4 4: ret 3", "0", "0", "-", "0", 4}, {"4 6: num 4 1; num 5 2; ret 4", "0", "0 0 0", "-", "0, 0 1, 0 1 2", 4}, {"2 4: add 2 0 1; add 3 2 0; ret 3", "0", "0 0 0", "-", "0, 0 1, 0 1 2", 2},
		// more live than In, ahead of one in the middle, of the first one, of one that nobody meets
		{"1 4: num 1 1; num 2 2; num 3 3; make 0 9 0 1 2 3; ret 0", "0", "0 0 0 0 0", "-", "0, 0 1, 0 1 2, 0 1 2 3, 0 1 2 3 4", 4}, {"0 4: pair 0 1 2; pair 0 0 3; ret 0", "0", "0 0 0", "-", "0, 0 1, 0 1 2", 3}, {"1 3: ret 0; pair 0 1 2; pair 0 0 0; ret 0", "0 1", "0 1 1 1", "-, -", "0, -, -, -", 2},
		// what is written and never read does not live
		{"0 3: num 0 1; num 1 2; num 2 3; ret 0", "0", "0 0 0 0", "-", "0, 0 1, 0 1 2, 0 1 2 3", 1},
		// read at a Guard alone: where one raises, where none does, where it is the D of the OpTry
		{"0 4: num 0 1; num 1 2; try 2 6; num 3 0; raise 3; ret 0; make 3 9 0 1 2; ret 3", "0 3 5 6", "0 0 0 1 1 2 3 3", "1, 3, -, -", "0, 0 1, 0 1 2, 0 1 2 3, 0 1 2 3 4, -, 0 1 2 3 4 6, 0 1 2 3 4 6 7", 3},
		{"3 4: num 0 1; num 1 2; try 2 6; nil 3; ret 3; ret 0; make 3 9 0 1 2 3; ret 3", "0 3 5 6", "0 0 0 1 1 2 3 3", "1, -, -, -", "0, 0 1, 0 1 2, 0 1 2 3, 0 1 2 3 4, -, -, -", 4},
		{"0 3: num 0 5; try 0 4; add 1 0 0; ret 1; ret 0", "0 2 4", "0 0 1 1 2", "1, 2, -", "0, 0 1, 0 1 2, 0 1 2 3, 0 1 2 4", 1},
		// on one way alone
		{"1 4: num 1 1; ifnot 0 4; num 2 2; ret 2; num 3 3; pair 3 3 1; ret 3", "0 2 4", "0 0 1 1 2 2 2", "1 2, -, -", "0, 0 1, 0 1 2, 0 1 2 3, 0 1 4, 0 1 4 5, 0 1 4 5 6", 2},
		// around a loop
		{"1 3: add 1 0 0; ifnot 1 4; move 2 1; ret 2; jump 0", "0 2 4", "0 0 1 1 2", "1 2, -, 0", "0, 0 1, 0 1 2, 0 1 2 3, 0 1 4", 2},
	})
	// as many live as there are bits
	for lives := range 9 {
		for in := range lives + 1 {
			p := impl.Piece{In: in, Regs: 9, Ins: []impl.Ins{{Op: impl.OpMake, D: 8, N: 9, L: ownSlots(impl.Piece{Regs: lives})}, {Op: impl.OpJump, To: 1}}}
			asPlainBlocks(t, p)
			if got := impl.Pressure(p); got != lives {
				t.Error(in, lives, got)
			}
			p.In = lives + 1
			if got := impl.Pressure(p); got != lives+1 {
				t.Error(lives, got)
			}
		}
	}
}

// What Lower makes of each kind that parts or raises.
func TestBlocksOfLoweredProgs(t *testing.T) {
	for _, c := range []struct {
		text string
		lam  int
		told blockCase
	}{
		{"main n 5", -1, blockCase{"0 1: num 0 5; ret 0", "0", "0 0", "-", "0, 0 1", 1}},
		{"main pair n 1 n 2", -1, blockCase{"0 3: num 0 1; num 1 2; pair 2 0 1; ret 2", "0", "0 0 0 0", "-", "0, 0 1, 0 1 2, 0 1 2 3", 2}},
		{"main if t n 1 n 2", -1, blockCase{"0 4: bool 0 1; ifnot 0 5; num 2 1; move 1 2; jump 7; num 3 2; move 1 3; ret 1", "0 2 5 7", "0 0 1 1 1 2 2 3", "1 2, 3, 3, -", "0, 0 1, 0 1 2, 0 1 2 3, 0 1 2 3 4, 0 1 5, 0 1 5 6, 0 1 7", 1}},
		{"main op + if t n 1 n 2 n 3", -1, blockCase{"0 6: bool 0 1; ifnot 0 5; num 2 1; move 1 2; jump 7; num 3 2; move 1 3; num 4 3; add 5 1 4; ret 5", "0 2 5 7", "0 0 1 1 1 2 2 3 3 3", "1 2, 3, 3, -", "0, 0 1, 0 1 2, 0 1 2 3, 0 1 2 3 4, 0 1 5, 0 1 5 6, 0 1 7, 0 1 7 8, 0 1 7 8 9", 2}},
		{"main if t if u n 1 n 2 n 3", -1, blockCase{"0 7: bool 0 1; ifnot 0 11; bool 2 0; ifnot 2 7; num 4 1; move 3 4; jump 9; num 5 2; move 3 5; move 1 3; jump 13; num 6 3; move 1 6; ret 1", "0 2 4 7 9 11 13", "0 0 1 1 2 2 2 3 3 4 4 5 5 6", "1 5, 2 3, 4, 4, 6, 6, -", "0, 0 1, 0 1 2, 0 1 2 3, 0 1 2 3 4, 0 1 2 3 4 5, 0 1 2 3 4 5 6, 0 1 2 3 7, 0 1 2 3 7 8, 0 1 2 3 9, 0 1 2 3 9 10, 0 1 11, 0 1 11 12, 0 1 13", 1}},
		{"main case h r nil n 1 v h", -1, blockCase{"0 5: nil 0; ifnil 0 6; first 2 0; second 3 0; move 1 2; jump 8; num 4 1; move 1 4; ret 1", "0 2 6 8", "0 0 1 1 1 1 2 2 3", "1 2, 3, 3, -", "0, 0 1, 0 1 2, 0 1 2 3, 0 1 2 3 4, 0 1 2 3 4 5, 0 1 6, 0 1 6 7, 0 1 8", 2}},
		{"main try e n 1 v e", -1, blockCase{"0 3: try 1 5; num 2 1; end; move 0 2; jump 6; move 0 1; ret 0", "0 1 5 6", "0 1 1 1 1 2 3", "1, 3, 3, -", "0, 0 1, 0 1 2, 0 1 2 3, 0 1 2 3 4, -, 0 1 2 3 4 6", 1}},
		{"main try e op + n 1 n 2 v e", -1, blockCase{"0 5: try 1 7; num 2 1; num 3 2; add 4 2 3; end; move 0 4; jump 8; move 0 1; ret 0", "0 1 7 8", "0 1 1 1 1 1 1 2 3", "1, 2 3, 3, -", "0, 0 1, 0 1 2, 0 1 2 3, 0 1 2 3 4, 0 1 2 3 4 5, 0 1 2 3 4 5 6, 0 1 2 3 7, 0 1 2 3 8", 2}},
		{"main try e raise n 5 v e", -1, blockCase{"0 4: try 1 7; num 2 5; raise 2; num 3 0; end; move 0 3; jump 8; move 0 1; ret 0", "0 1 3 7 8", "0 1 1 2 2 2 2 3 4", "1, 3, 4, 4, -", "0, 0 1, 0 1 2, -, -, -, -, 0 1 2 7, 0 1 2 7 8", 1}},
		{"main raise n 5", -1, blockCase{"0 2: num 0 5; raise 0; num 1 0; ret 1", "0 2", "0 0 1 1", "-, -", "0, 0 1, -, -", 1}},
		{"main op + raise n 5 n 1", -1, blockCase{"0 4: num 0 5; raise 0; num 1 0; num 2 1; add 3 1 2; ret 3", "0 2", "0 0 1 1 1 1", "-, -", "0, 0 1, -, -, -, -", 2}},
		{"main let x n 1 try e raise n 5 pair v x v e", -1, blockCase{"0 6: num 0 1; try 2 8; num 3 5; raise 3; num 4 0; end; move 1 4; jump 10; pair 5 0 2; move 1 5; ret 1", "0 2 4 8 10", "0 0 1 1 2 2 2 2 3 3 4", "1, 3, 4, 4, -", "0, 0 1, 0 1 2, 0 1 2 3, -, -, -, -, 0 1 2 3 8, 0 1 2 3 8 9, 0 1 2 3 8 9 10", 2}},
		{"main try e try g raise n 1 raise v g v e", -1, blockCase{"0 7: try 1 14; try 3 8; num 4 1; raise 4; num 5 0; end; move 2 5; jump 11; raise 3; num 6 0; move 2 6; end; move 0 2; jump 15; move 0 1; ret 0", "0 1 2 4 8 9 11 14 15", "0 1 2 2 3 3 3 3 4 5 5 6 6 6 7 8", "1, 2, 4, 6, 7, 6, 8, 8, -", "0, 0 1, 0 1 2, 0 1 2 3, -, -, -, -, 0 1 2 3 8, -, -, -, -, -, 0 1 2 3 8 14, 0 1 2 3 8 14 15", 1}},
		{"main try e if t fst n 1 n 2 v e", -1, blockCase{"0 7: try 1 12; bool 2 1; ifnot 2 7; num 4 1; first 5 4; move 3 5; jump 9; num 6 2; move 3 6; end; move 0 3; jump 13; move 0 1; ret 0", "0 1 3 7 9 12 13", "0 1 1 2 2 2 2 3 3 4 4 4 5 6", "1, 2 3 5, 4 5, 4, 6, 6, -", "0, 0 1, 0 1 2, 0 1 2 3, 0 1 2 3 4, 0 1 2 3 4 5, 0 1 2 3 4 5 6, 0 1 2 7, 0 1 2 7 8, 0 1 2 9, 0 1 2 9 10, 0 1 2 9 10 11, 0 1 2 12, 0 1 2 13", 1}},
		{"fun 4 0 x v x | main call 1 4 make 4 0 n 8", 4, blockCase{"1 1: ret 0", "0", "0", "-", "0", 1}},
		{"fun 4 0 x v x | main call 1 4 make 4 0 n 8", -1, blockCase{"0 3: make 0 4; num 1 8; call 2 0 1 4; ret 2", "0 3", "0 0 0 1", "1, -", "0, 0 1, 0 1 2, 0 1 2 3", 2}},
		{"fun 4 0 x raise v x | main try e call 1 4 make 4 0 n 8 v e", 4, blockCase{"1 2: raise 0; num 1 0; ret 1", "0 1", "0 1 1", "-, -", "0, -, -", 1}},
		{"fun 4 0 x raise v x | main try e call 1 4 make 4 0 n 8 v e", -1, blockCase{"0 5: try 1 7; make 2 4; num 3 8; call 4 2 3 4; end; move 0 4; jump 8; move 0 1; ret 0", "0 1 4 7 8", "0 1 1 1 2 2 2 3 4", "1, 2 3, 4, 4, -", "0, 0 1, 0 1 2, 0 1 2 3, 0 1 2 3 4, 0 1 2 3 4 5, 0 1 2 3 4 5 6, 0 1 2 3 7, 0 1 2 3 8", 2}},
		{"fun 4 1 y x if v x v y n 0 | main let y n 3 call 1 4 make 4 1 y t", 4, blockCase{"2 4: ifnot 1 3; move 2 0; jump 5; num 3 0; move 2 3; ret 2", "0 1 3 5", "0 1 1 2 2 3", "1 2, 3, 3, -", "0, 0 1, 0 1 2, 0 3, 0 3 4, 0 5", 2}},
		{"fun 4 1 y x if v x v y n 0 | main let y n 3 call 1 4 make 4 1 y t", -1, blockCase{"0 4: num 0 3; make 1 4 0; bool 2 1; call 3 1 2 4; ret 3", "0 4", "0 0 0 0 1", "1, -", "0, 0 1, 0 1 2, 0 1 2 3, 0 1 2 3 4", 2}},
	} {
		made, ok := impl.Lower(toldProg(c.text))
		want := toldPiece(c.told.text)
		want.Lam = c.lam
		at := slices.IndexFunc(piecesOf(&made), func(p *impl.Piece) bool { return p.Lam == c.lam })
		if !ok || at < 0 || !equalPieces(*piecesOf(&made)[at], want) {
			t.Errorf("the test's own: %s: %s", c.text, codeText(made))
		}
		blockedCases(t, []blockCase{c.told})
		for _, p := range piecesOf(&made) {
			asPlainBlocks(t, *p)
		}
	}
}

// Whether what is behind each Op begins a block, and where it leads to does.
func TestLeadersOfEachOp(t *testing.T) {
	met := map[int]bool{}
	for word, behind := range map[string]string{
		"num 0 1": "", "bool 0 1": "", "nil 0": "", "move 0 1": "", "add 0 0 1": "", "less 0 1 1": "", "pair 0 0 1": "", "cons 0 1 0": "", "make 0 9 0 1": "", "first 0 1": "", "second 0 0": "", "end": "",
		"call 0 0 1 3": "2", "call 0 0 1": "2", "ret 1": "2", "raise 0": "2",
		"ifnot 0 4": "2 4", "ifnot 1 0": "2", "ifnot 0 1": "1 2", "ifnot 1 2": "2", "ifnot 0 5": "2 5", "ifnil 0 3": "2 3", "ifnil 1 5": "2 5", "ifnil 0 0": "2", "jump 0": "2", "jump 1": "1 2", "jump 2": "2", "jump 3": "2 3", "jump 4": "2 4", "jump 5": "2 5", "try 0 0": "2", "try 1 1": "1 2", "try 0 2": "2", "try 1 3": "2 3", "try 0 5": "2 5",
	} {
		p := toldPiece("2 3: num 0 0; num 0 0; num 0 0; num 0 1; num 0 2; ret 0")
		p.Ins[1] = toldIns(word)
		met[p.Ins[1].Op] = true
		asPlainBlocks(t, p)
		if got, want := impl.Leaders(p), append([]int{0}, toldNumbers(behind)...); !slices.Equal(got, want) {
			t.Errorf("%s: leaders %v, not %v", word, got, want)
		}
		// as the last one there is nothing behind it
		if last := toldIns(word); last.Op == impl.OpRet || last.Op == impl.OpJump {
			p := toldPiece("2 3: num 0 0; num 0 0; num 0 0; num 0 1; num 0 2; ret 0")
			p.Ins[5] = last
			asPlainBlocks(t, p)
			want := []int{0}
			if last.To > 0 {
				want = append(want, last.To)
			}
			if got := impl.Leaders(p); !slices.Equal(got, want) {
				t.Errorf("%s at the end: leaders %v, not %v", word, got, want)
			}
		}
	}
	if len(met) != 18 {
		t.Error("the test's own", met)
	}
}

// Which Ops go on at their Guard, from within a block: another, the same, the one behind.
func TestBlockNextsAtTheGuardOfEachOp(t *testing.T) {
	met := map[int]bool{}
	for word, raises := range map[string]bool{
		"num 0 1": false, "bool 0 1": false, "nil 0": false, "move 0 1": false, "pair 0 0 1": false, "cons 0 1 0": false, "make 0 9 0 1": false, "try 0 3": false, "end": false, "ret 1": false, "jump 3": false,
		"add 0 0 1": true, "less 0 1 1": true, "first 0 1": true, "second 0 0": true, "ifnot 0 3": true, "ifnil 1 3": true, "call 0 0 1 3": true, "raise 0": true,
	} {
		p := toldPiece("2 3: try 2 0; num 0 0; end; jump 7; num 0 0; num 0 1; num 0 2; ret 0")
		p.Ins[2] = toldIns(word)
		met[p.Ins[2].Op] = true
		for _, guard := range []int{0, 1, 2, 4, 5, 6} {
			p.Ins[0] = impl.Ins{Op: impl.OpTry, D: 2, To: guard}
			asPlainBlocks(t, p)
			nexts := impl.BlockNexts(p, impl.BlockOf(p, 2))
			if got := slices.Contains(nexts, impl.BlockOf(p, guard)); got != raises {
				t.Errorf("%s with the Guard %d: nexts %v", word, guard, nexts)
			}
			// without an OpTry there is none
			p.Ins[0] = impl.Ins{Op: impl.OpIfNot, To: guard}
			asPlainBlocks(t, p)
			nexts = impl.BlockNexts(p, impl.BlockOf(p, 2))
			if slices.Contains(nexts, impl.BlockOf(p, guard)) {
				t.Errorf("%s without a Guard: nexts %v", word, nexts)
			}
		}
	}
	if len(met) != 18 {
		t.Error("the test's own", met)
	}
}

// A block and an instruction past both ends, of the least Piece and of others.
func TestBlocksPastTheEnds(t *testing.T) {
	for _, text := range []string{"1 1: ret 0", "0 0: jump 0", triedText, "1 2: raise 0; num 1 0; ret 1", "1 1: ifnot 0 2; ret 0; ret 0"} {
		p := toldPiece(text)
		want := asPlainBlocks(t, p)
		if impl.BlockOf(p, len(p.Ins)-1) != len(want.leaders)-1 || impl.BlockOf(p, 0) != 0 {
			t.Error(text)
		}
		for _, n := range []int{-1, len(p.Ins), len(want.leaders), math.MinInt, math.MaxInt} {
			block, nexts, ahead := impl.BlockOf(p, n), impl.BlockNexts(p, n), impl.Ahead(p, n)
			if n >= 0 && n < len(p.Ins) {
				continue
			}
			if block != -1 || len(nexts) != 0 || len(ahead) != 0 {
				t.Errorf("%s: block %d, nexts %v, ahead %v of %d", text, block, nexts, ahead, n)
			}
		}
	}
}

func TestBlocksByChance(t *testing.T) {
	t.Parallel()
	blocks, itself, guarded, merged, unmet, small, great := 0, 0, 0, 0, 0, 0, 0
	for _, p := range slices.Concat(triedPieces(2500), trimPieces(800), piecesOfAll(anyCodes(300))) {
		b := asPlainBlocks(t, p)
		blocks += len(b.leaders)
		for at, nexts := range b.nexts {
			if slices.Contains(nexts, at) {
				itself++
			}
		}
		for at, ahead := range b.ahead {
			switch {
			case len(ahead) == 0:
				unmet++
			case at > 0 && !slices.Contains(ahead, at-1):
				merged++
			}
			if try := plainTry(p, at); try >= 0 && strings.Contains(plainGoes(p.Ins[at].Op), "r") {
				guarded++
			}
		}
		if b.pressure > p.In {
			great++
		}
		if len(p.Ins) <= 8 {
			small++
			aheadAsByWays(t, p)
		}
	}
	if blocks < 10000 || itself < 500 || guarded < 3000 || merged < 2000 || unmet < 5000 || small < 500 || great < 1000 {
		t.Error("too few", blocks, itself, guarded, merged, unmet, small, great)
	}
}

// What follows, of all that Lower makes of terms and Progs, packed and trimmed as well.
func TestBlocksOfLoweredCodes(t *testing.T) {
	t.Parallel()
	pieces, many, raised := 0, 0, 0
	for _, c := range loweredCodes(t, 150) {
		packed := impl.PackAll(c)
		for _, c := range []impl.Code{c, packed, impl.TrimAll(packed)} {
			for _, p := range piecesOf(&c) {
				b := asPlainBlocks(t, *p)
				pieces++
				if len(b.leaders) > 4 {
					many++
				}
				for at := range p.Ins {
					if impl.Guard(*p, at) >= 0 {
						raised++
					}
				}
			}
		}
	}
	if pieces < 1500 || many < 300 || raised < 1000 {
		t.Error("too few", pieces, many, raised)
	}
}

// Code that runs goes from one block to one of its nexts, and meets what is ahead of where it is, as long as each raise goes on at its Guard.
func TestBlocksOnTheWay(t *testing.T) {
	t.Parallel()
	steps, ways := 0, 0
	for _, c := range loweredCodes(t, 150) {
		s, w := goesByBlocks(t, c, 120)
		steps += s
		ways += w
	}
	chance := 0
	for _, c := range anyCodes(1500) {
		if evenRaises(c, 60) {
			goesByBlocks(t, c, 60)
			chance++
		}
	}
	if steps < 5000 || ways < 1000 || chance < 300 {
		t.Error("too few", steps, ways, chance)
	}
}

// goesByBlocks tells how many steps were looked at, and how many of them went to another block or back.
func goesByBlocks(t *testing.T, c impl.Code, fuel int) (steps, ways int) {
	t.Helper()
	told := map[int]blocking{}
	for _, p := range piecesOf(&c) {
		told[p.Lam] = tellsBlocks(*p)
	}
	// each Piece that was begun is told apart by its registers, which are kept so that no other ones come to be where they were
	type begun struct {
		regs map[int]*codeValue
		last int
		met  map[int]bool
	}
	pieces := map[uintptr]*begun{}
	w := &codeWalker{code: c, fuel: fuel}
	w.ahead = func(p impl.Piece, at int, regs map[int]*codeValue, _ []int) {
		b := told[p.Lam]
		key := reflect.ValueOf(regs).Pointer()
		run := pieces[key]
		if run == nil {
			run = &begun{regs, -1, map[int]bool{}}
			pieces[key] = run
		}
		run.met[at] = true
		for _, one := range b.ahead[at] {
			if !run.met[one] {
				t.Errorf("%s: %d is met without %d, which is ahead of it", pieceText(p), at, one)
			}
		}
		if last := run.last; last >= 0 && (at != last+1 || b.blocks[at] != b.blocks[last]) {
			ways++
			if !slices.Contains(b.nexts[b.blocks[last]], b.blocks[at]) || b.leaders[b.blocks[at]] != at {
				t.Errorf("%s: from %d to %d, nexts %v", pieceText(p), last, at, b.nexts)
			}
		}
		run.last = at
		steps++
	}
	w.run()
	return steps, ways
}

// Pieces as great as they may be.
func TestBlocksOfTheGreatest(t *testing.T) {
	t.Parallel()
	for _, row := range []struct {
		why             string
		leaders, ahead  int
		ins             func(at int) impl.Ins
		in, regs, press int
	}{
		{"one block", 1, 600, func(int) impl.Ins { return impl.Ins{Op: 1, D: 399} }, 0, 400, 1},
		{"one block of moves", 1, 600, func(at int) impl.Ins { return impl.Ins{Op: 4, D: at % 400, X: (at + 1) % 400} }, 2, 400, 399},
		{"all In", 1, 600, func(int) impl.Ins { return impl.Ins{Op: 18} }, 400, 400, 400},
		{"calls", 600, 600, func(int) impl.Ins { return impl.Ins{Op: 14, D: 0, X: 398, Y: 399} }, 399, 400, 399},
		{"jumps behind", 600, 600, func(at int) impl.Ins { return impl.Ins{Op: 13, To: at + 1} }, 0, 400, 1},
		{"jumps over all", 600, 2, func(int) impl.Ins { return impl.Ins{Op: 13, To: 599} }, 0, 400, 1},
		{"ifs over all", 600, 2, func(int) impl.Ins { return impl.Ins{Op: 11, X: 3, To: 599} }, 3, 400, 3},
		{"ifs over one", 600, 301, func(at int) impl.Ins { return []impl.Ins{{Op: 12, To: min(at+2, 599)}, {Op: 13, To: at + 1}}[at%2] }, 0, 400, 2},
		{"tries", 600, 600, func(at int) impl.Ins { return impl.Ins{Op: 17, D: at % 400, To: 599 - at} }, 1, 400, 1},
		{"rets", 600, 0, func(int) impl.Ins { return impl.Ins{Op: 15} }, 1, 400, 1},
	} {
		t.Run(row.why, func(t *testing.T) {
			t.Parallel()
			p := impl.Piece{Lam: 3, In: row.in, Regs: row.regs}
			for at := range 599 {
				p.Ins = append(p.Ins, row.ins(at))
			}
			p.Ins = append(p.Ins, impl.Ins{Op: 15, X: 399})
			b := asPlainBlocks(t, p)
			if len(b.leaders) != row.leaders || len(b.ahead[599]) != row.ahead || b.pressure != row.press {
				t.Errorf("%d leaders, %d ahead of the last one, pressure %d", len(b.leaders), len(b.ahead[599]), b.pressure)
			}
			more := p
			more.Ins = append([]impl.Ins{{Op: 18}}, p.Ins...)
			notBlocked(t, row.why, more, "many ins")
			more = p
			more.Regs = 401
			notBlocked(t, row.why, more, "regs")
			if row.in == 400 {
				more.In = 401
				notBlocked(t, row.why, more, "regs")
			}
		})
	}
	// step by step back from the last one, each ahead of the one in front of it
	p := impl.Piece{Regs: 400, Ins: toldList("jump 599; ret 0")}
	for at := range 598 {
		p.Ins = append(p.Ins, impl.Ins{Op: 13, To: at + 1})
	}
	b := asPlainBlocks(t, p)
	if len(b.leaders) != 600 || len(b.ahead[1]) != 600 || len(b.ahead[599]) != 2 || !slices.Equal(b.nexts[300], []int{299}) {
		t.Error(len(b.leaders), len(b.ahead[1]), b.ahead[599])
	}
	// all registers at once
	p = impl.Piece{In: 0, Regs: 400, Ins: []impl.Ins{{Op: impl.OpMake, D: 0, L: ownSlots(impl.Piece{Regs: 400})}, {Op: impl.OpRet}}}
	asPlainBlocks(t, p)
	if got := impl.Pressure(p); got != 400 {
		t.Error(got)
	}
}

// Whose Piece it is, and what hangs on Lams, is not asked for.
func TestBlocksLeaveLamsAside(t *testing.T) {
	want := blocking{[]int{0, 2}, []int{0, 0, 1, 1}, [][]int{{1}, nil}, toldLists("0, 0 1, 0 1 2, 0 1 2 3"), 3}
	for _, lam := range []int{math.MinInt, -2, -1, 0, 3, 149, 150, math.MaxInt} {
		p := toldPiece("3 3: make 0 7 1 1 2; call 1 0 1; pair 0 0 1; ret 0")
		p.Lam = lam
		p.Ins[0].N = lam
		p.Ins[1].L = []int{lam, 3, lam}
		asPlainBlocks(t, p)
		blockedTo(t, p, want)
	}
}

// Each condition of a right Piece, broken alone.
func TestBlocksOfWhatIsNotRight(t *testing.T) {
	asPlainBlocks(t, toldPiece(triedText))
	notBlocked(t, "zero", impl.Piece{}, "no ins")
	for _, c := range wrongPieces() {
		notBlocked(t, c.why, c.p, c.faults)
		for _, in := range []int{0, 1} {
			if c.p.In == 0 || c.p.In == 1 {
				c.p.In = min(in, c.p.Regs)
				notBlocked(t, c.why, c.p, strings.Join(pieceFaults(c.p), ", "))
			}
		}
	}
}

// Each change of each instruction and each Piece of a Code.
func TestBlocksOfEachChange(t *testing.T) {
	t.Parallel()
	alone := map[string]int{}
	right := 0
	look := func(why string, p impl.Piece) {
		faults := pieceFaults(p)
		if len(faults) == 0 {
			right++
			asPlainBlocks(t, p)
			return
		}
		notBlocked(t, why, p, strings.Join(faults, ", "))
		if len(faults) == 1 {
			alone[faults[0]]++
		}
	}
	whole := fullerCode()
	for at, p := range piecesOf(&whole) {
		look("whole", *p)
		for place := range p.Ins {
			for why, change := range insChanges() {
				c := fullerCode()
				p := piecesOf(&c)[at]
				change(&p.Ins[place])
				look(fmt.Sprint(why, " at ", place, " of ", at), *p)
			}
		}
		for why, change := range pieceChanges() {
			if len(p.Ins) > 1 && strings.HasPrefix(why, "600") {
				continue
			}
			c := fullerCode()
			p := piecesOf(&c)[at]
			change(p)
			look(fmt.Sprint(why, " of ", at), *p)
		}
	}
	for _, fault := range []string{"in", "regs", "no ins", "many ins", "last", "op", "field D", "field X", "field Y", "field N", "field T", "field L", "to", "register D", "register X", "register Y", "register L", "number"} {
		if alone[fault] == 0 {
			t.Errorf("%q is never alone", fault)
		}
	}
	if right < 300 {
		t.Error("too few", right)
	}
}

// blockArguments are Pieces of all sorts, right and wrong.
func blockArguments() []impl.Piece {
	all := liveArguments()
	for _, c := range wrongPieces() {
		all = append(all, c.p)
	}
	return all
}

// blockNumbers are numbers to ask a Piece about: some of what it has, and of what it has not.
func blockNumbers(p impl.Piece) []int {
	all := []int{-1, len(p.Ins), math.MaxInt, math.MinInt}
	for n := range min(len(p.Ins), 20) {
		all = append(all, n)
	}
	return all
}

func TestBlockArgumentsStay(t *testing.T) {
	t.Parallel()
	for _, p := range blockArguments() {
		roomy := roomyPiece(p)
		kept := fullPiece(roomy)
		impl.Leaders(roomy)
		impl.Pressure(roomy)
		for _, n := range blockNumbers(p) {
			impl.BlockOf(roomy, n)
			impl.BlockNexts(roomy, n)
			impl.Ahead(roomy, n)
		}
		if !reflect.DeepEqual(fullPiece(roomy), kept) {
			t.Fatal("an argument was written to", pieceText(p))
		}
	}
}

// What lies behind a list's length is not there.
func TestBlockSpareRoomIsNotRead(t *testing.T) {
	t.Parallel()
	for _, p := range blockArguments() {
		roomy := roomyPiece(p)
		if !slices.Equal(impl.Leaders(roomy), impl.Leaders(p)) || impl.Pressure(roomy) != impl.Pressure(p) {
			t.Error(pieceText(p))
		}
		for _, n := range append(blockNumbers(p), len(p.Ins)+1) {
			if impl.BlockOf(roomy, n) != impl.BlockOf(p, n) || !slices.Equal(impl.BlockNexts(roomy, n), impl.BlockNexts(p, n)) || !slices.Equal(impl.Ahead(roomy, n), impl.Ahead(p, n)) {
				t.Error(pieceText(p), n)
			}
		}
	}
}

func TestBlockAnswersAreNewMemory(t *testing.T) {
	t.Parallel()
	for _, p := range blockArguments() {
		roomy := roomyPiece(p)
		given := codePlaces(impl.Code{Main: roomy})
		ownPlaces(t, "Leaders of "+pieceText(p), append(intPlaces(impl.Leaders(roomy)), intPlaces(impl.Leaders(roomy))...), given)
		for _, n := range blockNumbers(p) {
			why := strconv.Itoa(n) + " of " + pieceText(p)
			ownPlaces(t, "BlockNexts at "+why, append(intPlaces(impl.BlockNexts(roomy, n)), intPlaces(impl.BlockNexts(roomy, n))...), given)
			ownPlaces(t, "Ahead at "+why, append(intPlaces(impl.Ahead(roomy, n)), intPlaces(impl.Ahead(roomy, n))...), given)
		}
	}
	// what is written into an answer is not in the next one
	p := toldPiece("2 3: try 2 4; add 0 0 1; end; ret 0; call 0 0 2 3; ret 0")
	p.Ins[4].L = []int{0, 1, 2, 3}
	want := asPlainBlocks(t, p)
	spoilt := tellsBlocks(p)
	for _, list := range slices.Concat([][]int{spoilt.leaders}, spoilt.nexts, spoilt.ahead) {
		for n := range list[:cap(list)] {
			list[:cap(list)][n] = 99
		}
	}
	blockedTo(t, p, want)
	if !slices.Equal(p.Ins[4].L, []int{0, 1, 2, 3}) {
		t.Error("an argument was written to", p)
	}
}

// Nothing is kept from one call to another, whatever was asked between.
func TestBlocksKeepNothing(t *testing.T) {
	pieces := triedPieces(300)
	var told []blocking
	for _, p := range pieces {
		told = append(told, tellsBlocks(p))
	}
	for at, p := range slices.Backward(pieces) {
		impl.Leaders(impl.Piece{})
		impl.BlockOf(pieces[len(pieces)-1-at], 3)
		impl.BlockNexts(pieces[len(pieces)-1-at], 1)
		impl.Ahead(impl.Piece{In: -1}, 0)
		if got := tellsBlocks(p); !got.same(told[at]) {
			t.Errorf("%s: %+v, not %+v", pieceText(p), got, told[at])
		}
	}
}

// Many at once answer as one after the other, also of one Piece.
func TestBlocksAtOnce(t *testing.T) {
	pieces := triedPieces(60)
	got := make([]blocking, 4*len(pieces))
	var all sync.WaitGroup
	for n := range got {
		all.Go(func() { got[n] = tellsBlocks(pieces[n%len(pieces)]) })
	}
	all.Wait()
	for n, b := range got {
		if want := plainBlocking(pieces[n%len(pieces)]); !b.same(want) {
			t.Errorf("%s: %+v, not %+v", pieceText(pieces[n%len(pieces)]), b, want)
		}
	}
}
