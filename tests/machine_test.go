package tests

import (
	"fmt"
	"math"
	"reflect"
	"slices"
	"strings"
	"testing"

	"loop.example/g00187/impl"
)

func TestEndRoomIsItsOwn(t *testing.T) {
	if impl.EndRoom != 4 {
		t.Error(impl.EndRoom)
	}
	if impl.SameEnd(isRoom, isValue("1")) || !impl.SameEnd(isRoom, isRoom) || !impl.SameEnd(isRoom, isFuel) {
		t.Error("a lack of room is as any other end")
	}
}

// machTerms are terms that are ready, and what they end with.
var machTerms = map[string]string{
	"n 5": "5", "cons n 1 cons n 2 nil i": "[1,2]", "app fn a1 i cons v a1 0 nil i n 3": "[3]",
	"pair pair n 1 t pair nil i u": "((1,t),([],u))",
	// what is made and not needed any more
	"let a1 0 fst pair n 1 n 2 let a2 0 fst pair n 3 n 4 op + v a1 0 v a2 0": "4", "let a1 0 pair n 1 n 2 let a2 0 pair n 3 n 4 op + fst v a1 0 snd v a2 0": "5",
	"let a1 0 pair n 1 n 2 let a2 0 pair v a1 0 v a1 0 let a3 0 pair v a2 0 v a1 0 fst snd v a3 0": "1",
	// lists that are built, gone through, and built anew
	"fix a1 0 f i l i fn a2 i if op = v a2 0 n 0 nil i cons v a2 0 app v a1 0 op - v a2 0 n 1 app v a1 0 n 6":                                                                                                               "[6,5,4,3,2,1]",
	"fix a1 0 f i f l i l i fn a2 i fn a3 l i if op = v a2 0 n 0 v a3 0 app app v a1 0 op - v a2 0 n 1 cons v a2 0 v a3 0 app app v a1 0 n 5 nil i":                                                                         "[1,2,3,4,5]",
	"fix a1 0 f l i f l i l i fn a2 l i fn a3 l i case a4 a5 v a2 0 v a3 0 cons v a4 0 app app v a1 0 v a5 0 v a3 0 app app v a1 0 cons n 1 cons n 2 nil i app app v a1 0 cons n 3 nil i cons n 4 nil i":                    "[1,2,3,4]",
	"fix a1 0 f l i i fn a2 l i case a3 a4 v a2 0 n 0 op + v a3 0 app v a1 0 v a4 0 let a5 0 cons n 1 cons n 2 cons n 3 nil i op + app v a1 0 v a5 0 app v a1 0 v a5 0":                                                     "12",
	"fix a1 0 f f i i f l i l i fn a2 f i i fn a3 l i case a4 a5 v a3 0 nil i cons app v a2 0 v a4 0 app app v a1 0 v a2 0 v a5 0 let a6 0 n 10 app app v a1 0 fn a7 i op * v a7 0 v a6 0 cons n 1 cons n 2 cons n 3 nil i": "[10,20,30]",
	"fix a1 0 f i i fn a2 i if op < v a2 0 n 2 v a2 0 op + fst pair app v a1 0 op - v a2 0 n 1 v a2 0 app v a1 0 op - v a2 0 n 2 app v a1 0 n 7":                                                                            "13",
	"let a1 0 fn a2 i pair v a2 0 v a2 0 let a3 0 app v a1 0 n 1 let a4 0 app v a1 0 n 2 let a5 0 app v a1 0 n 3 op + fst v a3 0 op + fst v a4 0 fst v a5 0":                                                                "6",
	"let a1 0 fn a2 f i i app v a2 0 n 4 let a3 0 cons n 1 cons n 2 nil i op + app v a1 0 fn a4 i case a5 a6 v a3 0 n 0 op + v a4 0 v a5 0 case a7 a8 v a3 0 n 0 v a7 0":                                                    "6",
	// raises: caught, caught further out, caught behind what was made, and not at all
	"try a1 op + n 1 raise i n 5 op * v a1 0 n 2": "10", "raise b n 3": "raise 3", "let a1 0 pair n 1 n 2 raise i fst v a1 0": "raise 1",
	"let a1 0 pair n 8 n 9 try a2 app fn a3 i raise i fst pair v a3 0 v a3 0 n 5 op + v a2 0 fst v a1 0":                                                                                              "13",
	"try a1 let a2 0 pair n 1 n 2 let a3 0 app fn a4 i fst pair v a4 0 v a4 0 n 7 op + v a3 0 fst v a2 0 op + v a1 0 n 1":                                                                             "8",
	"let a1 0 cons n 7 nil i try a2 try a3 app fn a4 i raise i snd pair v a4 0 v a4 0 n 5 raise i op + v a3 0 n 1 case a5 a6 v a1 0 n 0 op + v a5 0 v a2 0":                                           "13",
	"fix a1 0 f i i fn a2 i if op = v a2 0 n 0 raise i n 9 let a3 0 pair v a2 0 v a2 0 op + fst v a3 0 app v a1 0 op - v a2 0 n 1 let a4 0 pair n 1 n 2 try a5 app v a1 0 n 4 op + v a5 0 snd v a4 0": "11",
	"fix a1 0 f i i fn a2 i let a3 0 pair v a2 0 v a2 0 try a4 if op = v a2 0 n 0 raise i n 9 op + app v a1 0 op - v a2 0 n 1 raise i snd v a3 0 op + v a4 0 fst v a3 0 app v a1 0 n 4":               "8",
	"let a1 0 n 1000000 try a2 fst pair op + v a1 0 n 1 nil i op - v a2 0 fst pair n 4 n 5":                                                                                                           "-5",
	// lists of functions, and functions that make functions
	"let a1 0 fn a2 i fn a3 i op - v a2 0 v a3 0 let a4 0 cons app v a1 0 n 9 cons app v a1 0 n 8 nil f i i case a5 a6 v a4 0 n 0 case a7 a8 v a6 0 n 0 op * app v a5 0 n 1 app v a7 0 n 2": "48",
	"fix a1 0 f i f i i fn a2 i if op = v a2 0 n 0 fn a3 i v a3 0 let a4 0 app v a1 0 op - v a2 0 n 1 fn a5 i op + n 1 app v a4 0 v a5 0 app app v a1 0 n 4 n 10":                           "14",
	"let a1 0 fn a2 i v a2 0 pair v a1 0 cons v a1 0 nil f i i": "(fn,[fn])",
	"fix a1 0 f i i fn a2 i app v a1 0 v a2 0 app v a1 0 n 1":   "fuel", "fix a1 0 f i i fn a2 i app v a1 0 fst pair v a2 0 v a2 0 app v a1 0 n 1": "fuel",
}

// Each on a heap of each size from 0 on, collected never, at each time and now and then, packed and not.
func TestMachineOfTerms(t *testing.T) {
	t.Parallel()
	var n machCounts
	for _, text := range sortedKeys(machTerms) {
		c := termCode(t, text)
		most := 1200
		if end := impl.RunCode(c, most); end != ends(machTerms[text]) {
			t.Errorf("the test's own: %s: %v", text, end)
		}
		for _, c := range []impl.Code{c, impl.PackAll(c)} {
			least := impl.Room(c, most)
			var sizes []int
			for size := range least + 5 {
				sizes = append(sizes, size)
			}
			ranAnyHow(t, c, append(sizes, 100, 5000), most, &n)
			needsRoom(t, text, c, most, least)
			end, _ := plainRunMach(c, least, 0, most)
			if end != ends(machTerms[text]) {
				t.Errorf("%s: with %d it ends with %v", text, least, end)
			}
		}
	}
	if n.values < 3000 || n.raises < 50 || n.fuel < 2000 || n.room < 2000 || n.collected < 20000 || n.kept < 5000 || n.zeroed < 5000 {
		t.Errorf("too few: %+v", n)
	}
}

// Codes of terms and Progs by chance, packed and not.
func TestMachineOfLoweredByChance(t *testing.T) {
	t.Parallel()
	var n machCounts
	shared := 0
	for _, c := range loweredCodes(t, 80) {
		packed := impl.PackAll(c)
		ranAnyHow(t, c, []int{0, 3, 7, 12, 40}, 300, &n)
		ranAnyHow(t, packed, []int{1, 4, 9, 25, 5000}, 300, &n)
		if room := impl.Room(c, 300); impl.Room(packed, 300) != room {
			t.Errorf("%s: packed it wants %d, not %d", codeText(c), impl.Room(packed, 300), room)
		}
		for _, p := range piecesOf(&packed) {
			for at, list := range impl.Maps(*p) {
				if try := plainTry(*p, at); p.Ins[at].Op == impl.OpCall && try >= 0 && slices.Contains(list, p.Ins[try].D) {
					shared++
				}
			}
		}
	}
	if n.values < 6000 || n.raises < 4000 || n.fuel < 6000 || n.room < 5000 || n.collected < 20000 || n.kept < 2000 || n.zeroed < 5000 || shared < 3 {
		t.Errorf("too few: %+v %d", n, shared)
	}
}

// Code that jumps about; where a raise goes on elsewhere than at its Guard, what is 0 then is read.
func TestMachineByChance(t *testing.T) {
	t.Parallel()
	var n machCounts
	other := 0
	for _, c := range slices.Concat(anyCodes(1000), strayCodes(1000)) {
		for _, size := range []int{0, 3, 6, 10, 30, 5000} {
			for _, every := range []int{0, 1, 2, 7} {
				end, h := asPlainMach(t, c, size, every, 150)
				n.count(end, h)
				if end != isRoom && end != impl.RunCode(c, 150) {
					other++
				}
			}
		}
	}
	if n.values < 8000 || n.raises < 5000 || n.fuel < 2000 || n.room < 3000 || n.collected < 20000 || n.kept < 200 || n.zeroed < 3000 || other < 20 {
		t.Errorf("too few: %+v %d", n, other)
	}
}

// With less fuel it ends for lack of that, or of room; nothing else hangs on it.
func TestMachineWithEachFuel(t *testing.T) {
	t.Parallel()
	for _, text := range sortedKeys(machTerms)[:9] {
		c := impl.PackAll(termCode(t, text))
		_, w := plainRunCode(c, 600)
		for fuel := range w.steps + 2 {
			for _, size := range []int{2, 7, 20} {
				asPlainMach(t, c, size, 0, fuel)
				asPlainMach(t, c, size, 2, fuel)
			}
		}
	}
	// the instruction that lacks room takes one of the fuel, too
	c := toldCode("main 2: num 0 1; pair 1 0 0; ret 0")
	for fuel, want := range []impl.Outcome{isFuel, isFuel, isRoom, isRoom} {
		ranMach(t, "no room", c, 2, 0, fuel, want, max(0, min(fuel-1, 1)))
	}
	for fuel, want := range []impl.Outcome{isFuel, isFuel, isFuel, isValue("1"), isValue("1")} {
		ranMach(t, "room", c, 3, 0, fuel, want, 0)
		ranMach(t, "room", c, 3, 1, fuel, want, max(0, min(fuel-1, 1)))
	}
}

// Of an instruction that takes no room, and is no OpCall, nothing is needed, whatever lives there.
func TestMapsOfEachOp(t *testing.T) {
	met := map[int]bool{}
	for _, text := range []string{"num 3 1", "bool 3 1", "nil 3", "move 3 0", "add 3 0 1", "first 3 0", "second 3 0", "ifnot 0 1", "ifnil 0 1", "jump 1", "raise 0", "try 3 1", "end", "ret 0"} {
		mappedTo(t, toldPiece("4 4: "+text+"; make 0 9 0 1 2 3; ret 0"), toldLists("-, 0 1 2 3, -"))
		met[toldIns(text).Op] = true
	}
	if len(met) != 14 {
		t.Error("the test's own", met)
	}
	mappedAll(t, []mapCase{
		{"2 3: pair 2 0 1; ret 2", "0 1, -"}, {"2 3: cons 2 0 1; ret 2", "0 1, -"}, {"2 3: pair 2 0 0; ret 2", "0, -"}, {"2 3: cons 2 1 1; ret 2", "1, -"}, {"2 3: pair 2 1 0; ret 2", "0 1, -"},
		{"4 5: make 4 9 3 1 3; ret 4", "1 3, -"}, {"1 2: make 1 9; ret 0", "0, -"}, {"1 2: make 1 9; ret 1", "-, -"}, {"3 4: make 3 9 2 1 0; ret 3", "0 1 2, -"},
		// what it does not read, but lives
		{"3 4: pair 3 0 1; pair 3 3 2; ret 3", "0 1 2, 2 3, -"}, {"3 4: cons 3 0 1; cons 3 3 2; ret 3", "0 1 2, 2 3, -"}, {"3 4: make 3 9 0; make 3 9 3 2; ret 3", "0 2, 2 3, -"},
		// what it writes is not needed, unless it reads that, too
		{"2 3: num 2 1; pair 2 0 1; ret 2", "-, 0 1, -"}, {"2 2: pair 0 0 1; ret 0", "0 1, -"}, {"2 2: cons 1 0 1; ret 1", "0 1, -"}, {"2 2: make 1 9 1; ret 1", "1, -"}, {"2 2: make 1 9 0; ret 1", "0, -"},
		// on two ways, behind what goes on nowhere, and in a ring
		{"4 5: pair 4 0 0; ifnot 1 3; ret 2; ret 3", "0 1 2 3, -, -, -"}, {"2 3: ret 0; pair 2 0 1; ret 2", "-, 0 1, -"}, {"2 3: pair 2 0 1; jump 0", "0 1, -"}, {"3 4: pair 0 0 1; ifnot 2 0; ret 0", "0 1 2, -, -"},
		// within an OpTry: what takes room does not raise
		{"2 4: try 2 4; pair 3 0 0; end; ret 3; ret 1", "-, 0, -, -, -"}, {"2 4: try 2 4; pair 3 0 0; raise 0; ret 3; pair 1 1 2; ret 1", "-, 0 1, -, -, 1 2, -"},
		{"0 0: jump 0", "-"}, {"0 1: ret 0", "-"},
	})
}

func TestMapsOfCalls(t *testing.T) {
	mappedAll(t, []mapCase{
		// the record and the argument are handed over
		{"2 3: call 2 0 1 9; ret 2", "-, -"}, {"2 3: call 2 0 1 9; pair 2 2 0; ret 2", "0, 0 2, -"}, {"2 3: call 2 0 1 9; pair 2 2 1; ret 2", "1, 1 2, -"}, {"1 2: call 1 0 0; ret 1", "-, -"}, {"1 2: call 1 0 0; ret 0", "0, -"},
		{"3 4: call 3 0 1 9; pair 3 3 2; ret 3", "2, 2 3, -"}, {"4 5: call 4 0 1 9; ifnot 4 3; ret 2; ret 3", "2 3, -, -, -"},
		// D: read behind the call, not read, and one of what the call reads
		{"3 3: call 2 0 1 9; ret 2", "-, -"}, {"3 3: call 2 0 1 9; pair 2 2 2; ret 2", "-, 2, -"}, {"3 4: call 3 0 1 9; ret 2", "2, -"}, {"2 2: call 0 0 1 9; pair 0 0 1; ret 0", "1, 0 1, -"}, {"2 2: call 1 0 1 9; pair 0 0 1; ret 0", "0, 0 1, -"},
		// one call behind another, and in a ring
		{"2 4: call 2 0 1 9; call 3 0 2 9; add 2 2 3; ret 2", "0, 2, -, -"}, {"3 4: call 3 0 1 9; jump 0", "0 1, -"}, {"3 3: call 1 0 1 9; ifnot 2 0; ret 1", "0 2, -, -"},
		// what was called last is not what lives ahead of the call
		{"3 4: call 3 2 1 9; call 3 0 3 9; ret 3", "0, -, -"},
	})
}

func TestMapsOfCallsThatAreTried(t *testing.T) {
	mappedAll(t, []mapCase{
		// what is read where a raise goes on, but the D of the OpTry
		{"3 5: try 3 4; call 4 0 1 9; end; ret 4; pair 4 3 2; ret 4", "-, 2, -, -, 2 3, -"}, {"3 5: try 3 4; call 4 0 1 9; end; ret 4; ret 3", "-, -, -, -, -"}, {"3 5: try 3 4; call 4 0 1 9; end; ret 4; ret 0", "-, 0, -, -, -"},
		// D, which a raise does not write
		{"3 4: try 2 4; call 3 0 1 9; end; ret 3; pair 3 3 2; ret 3", "-, 3, -, -, 2 3, -"}, {"3 4: try 2 4; call 3 0 1 9; end; ret 3; ret 3", "-, 3, -, -, -"}, {"2 3: try 2 4; call 0 0 1 9; end; ret 0; pair 0 0 2; ret 0", "-, 0, -, -, 0 2, -"},
		// the D of the OpTry, which an answer does not write
		{"3 4: try 2 5; call 3 0 1 9; end; pair 3 3 2; ret 3; ret 2", "-, 2, -, 2 3, -, -"}, {"3 4: try 0 5; call 3 0 1 9; end; pair 3 3 0; ret 3; ret 0", "-, 0, -, 0 3, -, -"},
		// both are one register
		{"3 4: try 3 4; call 3 0 1 9; end; ret 3; pair 3 3 2; ret 3", "-, 2, -, -, 2 3, -"}, {"3 4: try 3 4; call 3 0 1 9; end; ret 3; ret 3", "-, -, -, -, -"},
		// one within another, and behind the inner one
		{"3 6: try 3 7; try 4 8; call 5 0 1 9; end; call 5 0 1 9; end; ret 5; pair 5 3 0; pair 5 4 1; ret 5", "-, -, 0 1 4, -, 0 1 4, -, -, 0 1 3 4, 1 4, -"},
		{"4 7: try 4 7; try 5 8; call 6 0 1 9; end; end; ret 6; ret 6; ret 2; ret 3", "-, -, 3, -, -, -, -, -, -"}, {"4 7: try 4 7; try 5 8; end; call 6 0 1 9; end; ret 6; ret 6; ret 2; ret 3", "-, -, -, 2, -, -, -, -, -"}, {"4 7: try 4 7; try 5 8; end; end; call 6 0 1 9; ret 6; ret 6; ret 2; ret 3", "-, -, -, -, -, -, -, -, -"},
		{"4 7: end; try 4 7; try 5 8; end; call 6 0 1 9; end; ret 6; pair 6 4 2; ret 3", "-, -, -, -, 2 3, -, -, 2 3 4, -"},
		// what is done raises to the outer one
		{"4 6: try 4 8; try 5 5; call 0 0 1 9; end; jump 6; call 0 5 5 9; end; ret 0; pair 0 4 2; ret 0", "-, -, 2, -, -, 2, -, -, 2 4, -"},
		// To is the instruction behind the call: an answer leaves one, a raise the other
		{"3 5: try 3 2; call 4 0 1 9; pair 4 3 4; ret 4", "-, 3 4, 3 4, -"}, {"3 5: try 3 2; call 4 0 1 9; pair 4 3 3; ret 4", "-, 3, 3, -"}, {"3 5: try 3 2; call 4 0 1 9; pair 4 4 2; ret 4", "-, 2 4, 2 4, -"}, {"3 4: try 3 2; call 3 0 1 9; pair 3 3 2; ret 3", "-, 2, 2 3, -"},
		// To is the call, or ahead of it
		{"3 4: try 2 1; call 3 0 1 9; ret 3", "-, 0 1, -"}, {"3 4: num 2 1; try 2 0; call 3 0 1 9; end; ret 3", "-, -, 0 1, -, -"}, {"3 4: try 0 0; call 3 0 1 9; end; ret 3", "-, 1, -, -"},
		// it is over, or behind the call
		{"3 4: try 2 4; end; call 3 0 1 9; ret 3; pair 3 2 0; ret 3", "-, -, -, -, 0 2, -"}, {"3 4: call 3 0 1 9; try 2 4; end; ret 3; ret 2", "-, -, -, -, -"},
	})
}

func TestMapsByChance(t *testing.T) {
	t.Parallel()
	room, calls, tried, kept := 0, 0, 0, 0
	lowered := loweredCodes(t, 150)
	var packed []impl.Code
	for _, c := range lowered {
		packed = append(packed, impl.PackAll(c))
	}
	for _, p := range slices.Concat(triedPieces(4000), piecesOfAll(anyCodes(800)), piecesOfAll(lowered), piecesOfAll(packed)) {
		want := plainMaps(p)
		mappedTo(t, p, want)
		live := impl.Live(p)
		for at, i := range p.Ins {
			switch {
			case plainRoom(i) > 0:
				room++
				if !slices.Equal(live[at], want[at]) {
					t.Errorf("%s: at %d", pieceText(p), at)
				}
			case i.Op == impl.OpCall:
				calls++
				if impl.Guard(p, at) >= 0 {
					tried++
				}
				if slices.Contains(want[at], i.D) {
					kept++
				}
				// no more than lives ahead of it
				if slices.ContainsFunc(want[at], func(reg int) bool { return !slices.Contains(live[at], reg) }) {
					t.Errorf("%s: at %d", pieceText(p), at)
				}
			case len(want[at]) > 0:
				t.Errorf("the test's own: %s: at %d", pieceText(p), at)
			}
		}
	}
	if room < 5000 || calls < 2000 || tried < 700 || kept < 50 {
		t.Error("too few", room, calls, tried, kept)
	}
}

func TestMapsOfTheGreatest(t *testing.T) {
	all := make([]int, 400)
	for reg := range all {
		all[reg] = reg
	}
	p := impl.Piece{Lam: 3, In: 400, Regs: 400, Ins: []impl.Ins{{Op: impl.OpCall, D: 399, X: 0, Y: 1, L: []int{3}}, {Op: impl.OpMake, D: 0, N: 3, L: slices.Clone(all)}, {Op: impl.OpRet}}}
	mappedTo(t, p, [][]int{all[:399], all, nil})
	p.Ins[0].D = 0
	mappedTo(t, p, [][]int{all[1:], all, nil})
	p.Ins[1].L = slices.Clone(all[63:66])
	mappedTo(t, p, [][]int{all[63:66], all[63:66], nil})
	// 600 instructions
	p = impl.Piece{In: 2, Regs: 3, Ins: append(slices.Repeat(toldList("call 2 0 1 9"), 598), toldList("pair 0 0 2; ret 0")...)}
	want := append(slices.Repeat([][]int{{0, 1}}, 597), []int{0}, []int{0, 2}, nil)
	mappedTo(t, p, want)
	p.Ins = append(p.Ins, toldIns("ret 0"))
	if got := impl.Maps(p); len(got) != 0 {
		t.Error("601 instructions", len(got))
	}
}

func TestMapsOfWhatIsNotRight(t *testing.T) {
	t.Parallel()
	for _, w := range wrongPieces() {
		if own := strings.Join(pieceFaults(w.p), ", "); own != w.faults {
			t.Errorf("the test's own: %s: %q", w.why, own)
		}
		if got := impl.Maps(w.p); len(got) != 0 {
			t.Errorf("%s: Maps are %v", w.why, got)
		}
	}
	for _, p := range []impl.Piece{{}, {Ins: toldList("ret 0")}, {Regs: 400, Ins: []impl.Ins{{}}}} {
		if got := impl.Maps(p); len(got) != 0 {
			t.Errorf("%s: Maps are %v", pieceText(p), got)
		}
	}
	// Lams are left aside
	for _, text := range []string{"2 3: make 2 999 0 1; ret 2", "2 3: make 2 -5 1 0 1; ret 2"} {
		for _, lam := range []int{-7, -1, 0, 149, 150, math.MaxInt} {
			p := toldPiece(text)
			p.Lam = lam
			mappedTo(t, p, toldLists("0 1, -"))
		}
	}
	mappedAll(t, []mapCase{{"2 3: call 2 0 1 9 3 3 -8 999; pair 2 2 1; ret 2", "1, 1 2, -"}, {"0 3: call 2 0 1; pair 2 2 1; ret 2", "1, 1 2, -"}})
}

// A slot that is read again behind a call, while what is called takes room.
func TestWhatIsNeededBehindACall(t *testing.T) {
	const (
		kept   = "fun 3 1 2: pair 1 0 0; pair 1 0 0; ret 0 | main 5: num 0 5; pair 1 0 0; make 2 3; call 3 2 0 3; first 4 1; add 4 4 3; ret 4"
		dead   = "fun 3 1 2: pair 1 0 0; ret 0 | main 5: num 0 5; pair 1 0 0; first 4 1; make 2 3; call 3 2 0 3; add 4 4 3; ret 4"
		twice  = "fun 3 1 3: pair 1 0 0; pair 1 0 0; ret 0 | fun 4 2 4: pair 2 1 1; call 3 0 1 3; first 2 2; add 3 2 3; ret 3 | main 5: num 0 5; pair 1 0 0; make 2 3; make 3 4 2; call 4 3 0 4; first 1 1; add 4 4 1; ret 4"
		answer = "fun 3 1 2: pair 1 0 0; ret 0 | main 4: num 0 5; make 2 3; pair 3 0 0; call 3 2 0 3; ret 3"
		taken  = "fun 3 1 2: pair 1 0 0; ret 1 | main 4: num 0 5; pair 3 0 0; make 2 3; call 1 2 3 3; first 1 1; first 1 1; ret 1"
	)
	ranMachs(t, []machCase{
		{kept, 10, 0, "10", 0}, {kept, 9, 0, "10", 1}, {kept, 7, 0, "10", 1}, {kept, 6, 0, "10", 2}, {kept, 5, 0, "room", 1}, {kept, 4, 0, "room", 1}, {kept, 3, 0, "room", 1}, {kept, 2, 0, "room", 1}, {kept, 10, 1, "10", 4}, {kept, 6, 1, "10", 4}, {kept, 5, 1, "room", 3}, {kept, 6, 2, "10", 3}, {kept, 6, 3, "10", 2},
		// what is not needed any more is not kept
		{dead, 7, 0, "10", 0}, {dead, 6, 0, "10", 1}, {dead, 4, 0, "10", 1}, {dead, 3, 0, "10", 2}, {dead, 2, 0, "room", 1}, {dead, 3, 1, "10", 3},
		// the caller's caller's
		{twice, 15, 0, "15", 0}, {twice, 14, 0, "15", 1}, {twice, 9, 0, "15", 2}, {twice, 8, 0, "room", 2}, {twice, 9, 1, "15", 6}, {twice, 8, 1, "room", 5},
		// what D has is overwritten by the answer
		{answer, 7, 0, "5", 0}, {answer, 4, 0, "5", 1}, {answer, 3, 0, "room", 1}, {answer, 4, 1, "5", 3},
		// the record and the argument: what is called has them, if it needs them
		{taken, 7, 0, "5", 0}, {taken, 6, 0, "5", 1}, {taken, 5, 0, "room", 1}, {taken, 6, 1, "5", 3},
	})
}

// A call within an OpTry that raises behind a collection.
func TestWhatIsNeededWhereARaiseGoesOn(t *testing.T) {
	const (
		caught  = "fun 3 1 2: pair 1 0 0; pair 1 0 0; raise 0; ret 0 | main 5: num 0 5; pair 1 0 0; make 2 3; try 4 7; call 3 2 0 3; end; ret 3; first 3 1; add 3 3 4; ret 3"
		written = "fun 3 1 2: pair 1 0 0; raise 0; ret 0 | main 5: num 0 5; pair 3 0 0; make 2 3; try 4 7; call 3 2 0 3; end; ret 3; first 3 3; add 3 3 4; ret 3"
		number  = "fun 3 1 2: pair 1 0 0; ret 0 | main 5: num 0 5; make 2 3; pair 4 0 0; try 4 9; call 3 2 0 3; end; first 4 4; add 4 4 3; ret 4; ret 4"
		over    = "fun 3 1 2: pair 1 0 0; raise 0; ret 0 | main 5: num 0 5; make 2 3; pair 4 0 0; try 4 7; call 3 2 0 3; end; ret 3; ret 4"
		either  = "fun 3 1 2: pair 1 0 0; raise 0; ret 0 | main 5: num 0 5; make 2 3; pair 4 0 0; try 4 6; call 3 2 0 3; end; ret 4"
		behind  = "fun 3 1 2: pair 1 0 0; raise 0; ret 0 | main 5: num 0 5; make 2 3; pair 3 0 0; pair 4 3 3; try 3 6; call 4 2 0 3; pair 4 3 4; ret 4"
		further = "fun 3 1 2: pair 1 0 0; raise 0; ret 0 | fun 4 2 4: pair 2 1 1; call 3 0 1 3; first 2 2; ret 2 | main 6: num 0 5; pair 1 0 0; make 2 3; make 3 4 2; try 4 8; call 5 3 0 4; end; ret 5; second 5 1; add 5 5 4; ret 5"
		within  = "fun 3 1 2: pair 1 0 0; raise 0; ret 0 | main 7: num 0 5; pair 1 0 0; pair 2 1 0; make 3 3; try 4 10; try 5 8; call 6 3 0 3; end; add 5 5 5; raise 5; first 2 2; second 2 2; add 4 4 2; ret 4"
	)
	ranMachs(t, []machCase{
		{caught, 10, 0, "10", 0}, {caught, 9, 0, "10", 1}, {caught, 6, 0, "10", 2}, {caught, 5, 0, "room", 1}, {caught, 6, 1, "10", 4}, {caught, 100, 1, "10", 4},
		// D has still what it had
		{written, 7, 0, "10", 0}, {written, 6, 0, "10", 1}, {written, 5, 0, "room", 1}, {written, 6, 1, "10", 3}, {written, 5000, 1, "10", 3},
		// an answer leaves the D of the OpTry as it was
		{number, 7, 0, "10", 0}, {number, 6, 0, "10", 1}, {number, 5, 0, "room", 1}, {number, 7, 1, "10", 3},
		// a raise overwrites it, nobody needs it; or an answer would
		{over, 7, 0, "5", 0}, {over, 6, 0, "5", 1}, {over, 4, 0, "5", 1}, {over, 3, 0, "room", 1}, {over, 4, 1, "5", 3}, {either, 7, 0, "5", 0}, {either, 6, 0, "5", 1}, {either, 5, 0, "room", 1}, {either, 6, 1, "5", 3},
		// goes on where an answer would
		{behind, 13, 0, "(5,((5,5),(5,5)))", 0}, {behind, 12, 0, "(5,((5,5),(5,5)))", 1}, {behind, 9, 0, "(5,((5,5),(5,5)))", 2}, {behind, 8, 0, "room", 1}, {behind, 40, 1, "(5,((5,5),(5,5)))", 5},
		// caught in the caller's caller; what the one between needs is over then
		{further, 12, 0, "10", 0}, {further, 9, 0, "10", 1}, {further, 8, 0, "room", 2}, {further, 12, 1, "10", 5},
		// caught twice
		{within, 10, 0, "15", 0}, {within, 9, 0, "15", 1}, {within, 8, 0, "room", 1}, {within, 9, 1, "15", 4},
	})
}

// A register that is no root is the number 0, of each Piece that was begun; only where a raise goes on elsewhere than at its Guard it is read.
func TestWhatIsNoRootIsZero(t *testing.T) {
	const (
		own    = "main 4: bool 0 1; try 1 8; jump 4; end; num 2 7; pair 3 2 2; pair 3 2 2; raise 2; ret 0"
		asked  = "main 4: bool 0 1; try 1 8; jump 4; end; num 2 7; pair 3 2 2; pair 3 2 2; raise 2; ifnot 0 10; ret 2; ret 1"
		caller = "fun 3 1 2: pair 1 0 0; raise 0; ret 0 | main 4: bool 0 1; make 2 3; num 3 9; try 1 8; jump 6; end; call 3 2 3 3; ret 3; ret 0"
		object = "main 4: num 2 7; pair 0 2 2; try 1 8; jump 5; end; pair 3 2 2; raise 2; jump 0; ret 0"
	)
	ranMachs(t, []machCase{
		{own, 6, 0, "t", 0}, {own, 5, 0, "0", 1}, {own, 3, 0, "0", 1}, {own, 2, 0, "room", 1}, {own, 6, 1, "0", 2}, {own, 6, 2, "0", 1}, {own, 6, 3, "t", 0},
		{asked, 6, 0, "7", 0}, {asked, 5, 0, "raise -2", 1}, {asked, 6, 2, "raise -2", 1},
		{caller, 4, 0, "t", 0}, {caller, 3, 0, "0", 1}, {caller, 4, 2, "0", 1}, {caller, 4, 3, "t", 0},
		{object, 6, 0, "(7,7)", 0}, {object, 5, 0, "0", 1}, {object, 6, 2, "0", 1}, {object, 2, 0, "room", 1},
	})
}

// Words are collected at every n-th instruction that takes room, and whenever there is none.
func TestHowOftenWordsAreCollected(t *testing.T) {
	for many := range 12 {
		c := toldCode("main 2: num 0 1;" + strings.Repeat(" pair 1 0 0;", many) + " ret 0")
		for every := range 15 {
			want := 0
			if every > 0 {
				want = many / every
			}
			asPlainMach(t, c, 5000, every, 100)
			ranMach(t, fmt.Sprint(many, " pairs"), c, 5000, every, 100, isValue("1"), want)
		}
		// room for so many: those ahead of each collection are not needed any more
		for room := 1; room < 6; room++ {
			want := max(0, many-1) / room
			for more := range 3 {
				ranMach(t, fmt.Sprint(many, " pairs"), c, 3*room+more, 0, 100, isValue("1"), want)
				ranMach(t, fmt.Sprint(many, " pairs"), c, 3*room+more, room+1, 100, isValue("1"), want)
			}
		}
	}
	// one that was for lack of room counts as the last time, too: how often it was behind each of two pairs and six records, on 5 words
	for every, counts := range []string{"01112222", "12345678", "01122334", "01112223", "01112222"} {
		text := "fun 3 1 1: ret 0 | main 2: num 0 1;"
		for n, count := range counts {
			text += []string{" pair 1 0 0;", " make 1 3;"}[min(n/2, 1)]
			ranMachs(t, []machCase{{text + " ret 0", 5, every, "1", int(count - '0')}})
		}
	}
	// instructions that take no room do not count, and those of all Pieces do
	called := "fun 3 1 2: cons 1 0 0; ret 0 | main 3: num 0 1; make 1 3; call 2 1 0 3; move 2 0; nil 2; call 2 1 0 3; pair 2 0 0; ret 0"
	ranMachs(t, []machCase{{called, 50, 1, "1", 4}, {called, 50, 2, "1", 2}, {called, 50, 3, "1", 1}, {called, 50, 4, "1", 1}, {called, 50, 5, "1", 0}})
	// a greatest every: a ring of so many pairs
	for turns, want := range map[int]int{999: 0, 1000: 1, 1001: 1, 1999: 1, 2000: 2} {
		c := toldCode(fmt.Sprintf("main 4: num 0 %d; num 1 1; pair 2 0 0; sub 0 0 1; less 3 0 1; ifnot 3 2; ret 1", turns))
		ranMach(t, fmt.Sprint(turns, " turns"), c, 5000, 1000, impl.MaxFuel, isValue("1"), want)
	}
}

// Objects that are shared, and lists that are built while words are collected.
func TestMachineOfSharedObjects(t *testing.T) {
	const (
		shared = "main 5: num 0 5; pair 1 0 0; move 2 1; cons 3 1 2; pair 4 3 1; pair 4 4 2; ret 4"
		halves = "main 4: num 0 5; pair 1 0 0; pair 2 1 1; first 3 2; second 2 2; pair 0 0 0; pair 3 3 2; ret 3"
		record = "fun 3 4 5: pair 4 0 1; pair 4 4 2; ret 4 | main 4: num 0 5; pair 1 0 0; make 2 3 1 1 1; call 3 2 1 3; ret 3"
	)
	ranMachs(t, []machCase{
		{shared, 12, 0, "(([(5,5)],(5,5)),(5,5))", 0}, {shared, 11, 0, "room", 1}, {shared, 12, 1, "(([(5,5)],(5,5)),(5,5))", 4},
		{halves, 12, 0, "((5,5),(5,5))", 0}, {halves, 11, 0, "((5,5),(5,5))", 1}, {halves, 6, 0, "((5,5),(5,5))", 2}, {halves, 5, 0, "room", 1},
		{record, 13, 0, "(((5,5),(5,5)),(5,5))", 0}, {record, 12, 0, "(((5,5),(5,5)),(5,5))", 1}, {record, 9, 0, "(((5,5),(5,5)),(5,5))", 1}, {record, 8, 0, "room", 2}, {record, 12, 1, "(((5,5),(5,5)),(5,5))", 4},
	})
	// a list that grows, with a pair at each turn that is not needed any more
	c := toldCode("main 6: num 0 40; num 1 1; nil 2; pair 3 0 2; cons 2 0 2; sub 0 0 1; less 4 0 1; ifnot 4 3; ret 2")
	var parts []string
	for n := range 40 {
		parts = append(parts, fmt.Sprint(n+1))
	}
	text := "[" + strings.Join(parts, ",") + "]"
	for size := 115; size < 245; size++ {
		for _, every := range []int{0, 1, 2, 3, 79, 80, 81} {
			want, _ := asPlainMach(t, c, size, every, impl.MaxFuel)
			if (size < 120) != (want == isRoom) || size >= 120 && want != isValue(text) {
				t.Errorf("with %d: %v", size, want)
			}
		}
	}
	needsRoom(t, "a list that grows", c, impl.MaxFuel, 120)
}

// A rest that is no list, and what is wanted of words: as in code without a heap.
func TestMachineOfEachOpAndKind(t *testing.T) {
	t.Parallel()
	made := []string{"num 0 7", "num 0 1000000", "bool 0 1", "bool 0 0", "nil 0", "pair 0 1 1", "cons 0 1 1", "cons 0 1 2", "make 0 3", "make 0 4 1", "end"}
	used := []string{"add 3 0 0", "add 3 0 1", "sub 3 1 0", "mul 3 0 0", "less 3 0 1", "same 3 1 0", "pair 3 0 1", "cons 3 1 0", "cons 3 0 0", "make 3 4 0", "first 3 0", "second 3 0", "ifnot 0 7", "ifnil 0 7", "call 3 0 1 3", "call 3 0 1 3 4", "call 3 0 1", "raise 0", "move 3 0", "ret 0"}
	ended := map[int]int{}
	for _, first := range made {
		for _, then := range used {
			for _, tried := range []string{"end", "try 1 7"} {
				c := toldCode("fun 3 1 2: pair 1 0 0; ret 1 | fun 4 2 3: pair 2 0 1; ret 2 | main 4: num 1 7; nil 2; " + first + "; " + tried + "; " + then + "; pair 3 3 0; ret 3; pair 3 0 1; ret 3")
				for _, size := range []int{3, 4, 6, 9, 40} {
					for every := range 3 {
						end, _ := asPlainMach(t, c, size, every, 60)
						ended[end.End]++
					}
				}
			}
		}
	}
	if ended[impl.EndValue] < 2000 || ended[impl.EndRaise] < 1000 || ended[impl.EndRoom] < 500 {
		t.Error("too few", ended)
	}
	for text, told := range map[string]string{
		"main 3: num 0 1; cons 1 0 0; ret 1": "[1]", "main 3: num 0 1; cons 1 0 0; cons 1 0 1; ret 1": "[1,1]", "main 3: num 0 1; cons 1 0 0; second 1 1; ret 1": "1", "main 3: pair 1 0 0; cons 1 2 1; second 1 1; ret 1": "(0,0)", "main 2: ret 1": "0", "main 2: pair 0 0 1; ret 0": "(0,0)", "main 2: bool 0 1; bool 1 0; pair 0 0 1; ret 0": "(t,u)",
		"fun 3 2 3: pair 2 1 2; cons 2 0 2; ret 2 | main 3: num 0 1; make 1 3 0; num 0 2; call 0 1 0 3; ret 0": "[1]", "fun 3 1 1: ret 0 | main 1: make 0 3; ret 0": "fn", "fun 149 1 1: ret 0 | main 2: make 0 149; num 1 8; call 0 0 1 149; ret 0": "8", "fun 0 1 1: ret 0 | main 2: make 0 0; num 1 8; call 0 0 1 0; ret 0": "8",
	} {
		for every := range 3 {
			c := toldCode(text)
			asPlainMach(t, c, 20, every, 50)
			if end, _ := impl.RunMach(c, 20, every, 50); end != ends(told) {
				t.Errorf("%s: %v", text, end)
			}
		}
	}
}

// A jump in a Piece without registers.
func TestMachineWithoutRegisters(t *testing.T) {
	for text, told := range map[string]string{"main 0: jump 0": "fuel", "main 0: jump 1; jump 2; jump 1": "fuel", "main 0: end; jump 0": "fuel"} {
		ranMachs(t, []machCase{{text, 0, 0, told, 0}, {text, 5000, 1, told, 0}})
		needsRoom(t, text, toldCode(text), 50, 0)
	}
}

// As many fields as an object may have, and one more, for which there is no room on any heap.
func TestMachineOfTheGreatestRecords(t *testing.T) {
	manyFields := func(fields int) impl.Code {
		c := toldCode("main 3: num 0 5; pair 1 0 0; make 2 3; num 0 6; call 2 2 0 3; ret 2")
		c.Main.Ins[2].L = slices.Repeat([]int{1}, fields)
		c.Funs = []impl.Piece{{Lam: 3, In: fields + 1, Regs: fields + 3, Ins: []impl.Ins{{Op: impl.OpFirst, D: fields + 1, X: fields - 1}, {Op: impl.OpPair, D: fields + 1, X: fields + 1, Y: fields}, {Op: impl.OpRet, X: fields + 1}}}}
		return c
	}
	for _, fields := range []int{1, 2, 10, 98, 99} {
		c := manyFields(fields)
		for _, size := range []int{fields + 3, fields + 4, fields + 6, fields + 7, 5000} {
			for every := range 4 {
				end, _ := asPlainMach(t, c, size, every, 100)
				if (size < fields+4) != (end == isRoom) || size >= fields+4 && end != isValue("(5,6)") {
					t.Errorf("%d fields with %d: %v", fields, size, end)
				}
			}
		}
		needsRoom(t, fmt.Sprint(fields, " fields"), c, 100, fields+4)
	}
	for _, fields := range []int{100, 101, 199, 200, 300, 397} {
		c := manyFields(fields)
		codeIs(t, fmt.Sprint(fields, " fields"), c, "")
		if end := impl.RunCode(c, 100); end != isValue("(5,6)") {
			t.Error("the test's own", end)
		}
		asPlainMach(t, c, 5000, 3, 100)
		ranMach(t, fmt.Sprint(fields, " fields"), c, 5000, 0, 100, isRoom, 1)
		ranMach(t, fmt.Sprint(fields, " fields"), c, 5000, 1, 100, isRoom, 2)
		ranMach(t, fmt.Sprint(fields, " fields"), c, 5000, 0, 2, isFuel, 0)
		needsRoom(t, fmt.Sprint(fields, " fields"), c, 100, -1)
		needsRoom(t, fmt.Sprint(fields, " fields"), c, 2, 3)
	}
}

// A text is told whole, of however many words it would be.
func TestMachineLongTexts(t *testing.T) {
	t.Parallel()
	text, want := "main 2: num 0 1000000", "1000000"
	for level := range 17 {
		c := toldCode(text + "; ret 0")
		for _, every := range []int{0, 1} {
			ranMach(t, fmt.Sprint("level ", level), c, 3*level+max(0, 1-every), every, 100, isValue(want), every*level)
		}
		if end := impl.RunCode(c, 100); end != isValue(want) {
			t.Error("the test's own", level)
		}
		text += "; pair 0 0 0"
		want = "(" + want + "," + want + ")"
	}
	// lists of lists: 12 parts, each of which has 12 parts, and so on
	text, want = "main 3: num 0 7", "7"
	for level := range 4 {
		text += "; nil 1" + strings.Repeat("; cons 1 0 1", 12) + "; move 0 1"
		want = "[" + want + strings.Repeat(","+want, 11) + "]"
		ranMach(t, fmt.Sprint("list ", level), toldCode(text+"; ret 0"), 5000, 3, 1000, isValue(want), 4*(level+1))
	}
	// what no memory holds is a lack of fuel, as without a heap
	c := toldCode("main 2: num 0 1;" + strings.Repeat(" pair 0 0 0;", 60) + " ret 0")
	ranMach(t, "2^60", c, 5000, 0, 100, isFuel, 0)
	ranMach(t, "2^60", c, 180, 1, 100, isFuel, 60)
	ranMach(t, "2^60", c, 179, 0, 100, isRoom, 1)
	needsRoom(t, "2^60", c, 100, 180)
}

// 1000 Pieces that were begun and are not ended, and one more.
func TestMachineDeep(t *testing.T) {
	t.Parallel()
	deep := func(turns int) impl.Code {
		return toldCode(fmt.Sprintf("fun 3 2 7: num 2 1; less 3 1 2; ifnot 3 4; ret 1; sub 2 1 2; pair 4 1 1; make 5 3 0; call 6 5 2 3; first 4 4; add 6 6 0; ret 6 | main 3: num 0 1; make 1 3 0; num 2 %d; call 2 1 2 3; ret 2", turns))
	}
	for turns, want := range map[int]impl.Outcome{0: isValue("0"), 1: isValue("1"), 500: isValue("500"), 998: isValue("998"), 999: isFuel, 5000: isFuel} {
		c := deep(turns)
		if end := impl.RunCode(c, impl.MaxFuel); end != want {
			t.Error("the test's own", turns, end)
		}
		for _, size := range []int{20, 5000} {
			for _, every := range []int{0, 700} {
				end, _ := asPlainMach(t, c, size, every, impl.MaxFuel)
				if end != want && end != isRoom {
					t.Error(turns, size, every, end)
				}
			}
		}
	}
	// each of them has a pair that is read behind the call
	for turns, want := range map[int]int{0: 2, 1: 5, 2: 8, 100: 302, 500: 1502} {
		needsRoom(t, fmt.Sprint(turns, " turns"), deep(turns), impl.MaxFuel, want)
	}
	needsRoom(t, "998 turns", deep(998), impl.MaxFuel, -1)
	ranMach(t, "998 turns", deep(998), 5000, 0, impl.MaxFuel, isValue("998"), 0)
}

func TestRoom(t *testing.T) {
	for text, want := range map[string]int{
		// no room at all
		"main 1: num 0 5; ret 0": 0, "main 1: ret 0": 0, "main 1: raise 0; ret 0": 0, "main 1: jump 0": 0, "main 2: num 0 1; ret 0; pair 1 0 0; ret 1": 0, "main 2: nil 0; ifnil 0 3; pair 1 0 0; ret 0": 0,
		// each kind
		"main 1: pair 0 0 0; ret 0": 3, "main 1: cons 0 0 0; ret 0": 3, "fun 3 1 1: ret 0 | main 1: make 0 3; ret 0": 1, "fun 3 3 3: ret 0 | main 1: make 0 3 0 0; ret 0": 3,
		// what is needed at once
		"main 2: pair 0 0 0; pair 1 0 0; ret 1": 6, "main 3: pair 0 0 0; pair 1 2 2; ret 1": 3, "main 3: pair 0 0 0; pair 1 2 2; ret 0": 6, "main 2: pair 0 0 0; first 0 0; pair 0 0 0; ret 0": 3, "main 3: pair 0 2 2; pair 0 0 0; pair 0 0 0; first 0 0; first 0 0; first 0 0; pair 0 0 0; ret 0": 9,
		// the most is not at the end
		"fun 3 1 1: ret 0 | main 3: pair 0 2 2; pair 1 0 0; cons 1 1 0; num 0 1; num 1 2; make 1 3; ret 1": 9,
		// it ends by a raise, ahead of what it would take, and behind
		"main 2: pair 0 1 1; raise 1; pair 0 0 0; ret 0": 3, "main 2: pair 0 1 1; raise 0; pair 0 0 0; ret 0": 3,
	} {
		c := toldCode(text)
		codeIs(t, text, c, "")
		needsRoom(t, text, c, 1000, want)
		if plain := plainRoomFor(c, 1000); plain != want {
			t.Errorf("%s: tried one after the other: %d, not %d", text, plain, want)
		}
	}
	// what is not met for lack of fuel takes no room
	c := toldCode("main 3: num 2 4; pair 0 2 2; pair 0 0 0; pair 0 0 0; ret 0")
	for fuel, want := range []int{0, 0, 3, 6, 9, 9, 9} {
		needsRoom(t, "three pairs", c, fuel, want)
	}
	for fuel, want := range map[int]int{0: 0, 1: 0, 2: 3, 3: 3, 4: 6, 100: 150, 1332: 1998, 1333: 1998, 1334: -1, 1335: -1, impl.MaxFuel: -1} {
		needsRoom(t, "a list without end", toldCode("main 2: nil 0; cons 0 1 0; jump 1"), fuel, want)
	}
	for _, fuel := range []int{2, 3, 100, impl.MaxFuel} {
		needsRoom(t, "pairs without end", toldCode("main 2: num 0 1; pair 1 0 0; jump 1"), fuel, 3)
	}
}

// Code that wants just 2000 words, and one more.
func TestRoomOfTheGreatest(t *testing.T) {
	t.Parallel()
	grown := func(parts, records int) impl.Code {
		text := fmt.Sprintf("fun 3 1 1: ret 0 | main 9: num 0 %d; num 1 1; nil 2; cons 2 0 2; sub 0 0 1; less 3 0 1; ifnot 3 3", parts)
		for n := range records {
			text += fmt.Sprintf("; make %d 3", 4+n)
		}
		for n := range records {
			text += fmt.Sprintf("; call 0 %d 1 3", 4+n)
		}
		return toldCode(text + "; first 2 2; ret 2")
	}
	for _, c := range []struct{ parts, records, want int }{{666, 0, 1998}, {666, 1, 1999}, {666, 2, 2000}, {666, 3, -1}, {667, 0, -1}, {665, 5, 2000}, {1, 0, 3}, {333, 1, 1000}} {
		code := grown(c.parts, c.records)
		needsRoom(t, fmt.Sprint(c), code, impl.MaxFuel, c.want)
		// on the greatest heap
		ranMach(t, fmt.Sprint(c), code, 5000, 0, impl.MaxFuel, isValue("1"), 0)
	}
	for size, want := range map[int]impl.Outcome{5000: isValue("1"), 4999: isRoom} {
		ranMach(t, "1666 parts", grown(1666, 2), size, 0, impl.MaxFuel, want, 5000-size)
	}
	ranMach(t, "1666 parts", grown(1666, 3), 5000, 0, impl.MaxFuel, isRoom, 1)
	ranMach(t, "1667 parts", grown(1667, 0), 5000, 0, impl.MaxFuel, isRoom, 1)
}

// Where a raise goes on elsewhere than at its Guard, more words may lack room where less do not.
func TestRoomOfRaisesThatGoAstray(t *testing.T) {
	t.Parallel()
	const astray = "main 6: bool 0 1; try 1 8; jump 4; end; num 2 7; pair 3 2 2; pair 3 2 2; raise 2; ifnot 0 12; pair 4 2 2; pair 4 4 4; pair 4 4 4; ret 4"
	c := toldCode(astray)
	codeIs(t, astray, c, "")
	for size := range 15 {
		told := "((" + "(7,7),(7,7)),((7,7),(7,7)))"
		switch {
		case size < 3, size >= 6 && size < 9:
			told = "room"
		case size < 6:
			told = "raise -2"
		}
		if end, _ := asPlainMach(t, c, size, 0, 100); end != machEnds(told) {
			t.Error(size, end)
		}
	}
	needsRoom(t, astray, c, 100, 3)
	// another raise behind it that does not go astray: caught by none, and by its own
	for _, end := range []string{"raise 2; ret 4", "try 3 14; raise 2; ret 3"} {
		text := strings.TrimSuffix(astray, "ret 4") + end
		c := toldCode(text)
		codeIs(t, text, c, "")
		needsRoom(t, text, c, 100, 3)
		needsRoomAlone(t, text, c, 100, plainRoomFor(c, 100))
		for _, size := range []int{2, 3, 5, 6, 8, 9} {
			asPlainMach(t, c, size, 0, 100)
		}
		ranMach(t, text, c, 8, 0, 100, isRoom, 2)
	}
	// the same in a Piece that is called, caught in the caller
	const called = "fun 3 1 2: pair 1 0 0; raise 0; ret 0 | main 6: bool 0 1; make 2 3; num 3 9; try 1 8; jump 6; end; call 3 2 3 3; ret 3; ifnot 0 11; pair 4 1 1; pair 4 4 4; ret 4"
	c = toldCode(called)
	needsRoom(t, called, c, 100, 3)
	for size, told := range []string{"room", "room", "room", "raise -2", "room", "room", "((9,9),(9,9))"} {
		if end, _ := asPlainMach(t, c, size, 0, 100); end != machEnds(told) {
			t.Error(size, end)
		}
	}
}

// Room against sizes that are tried one after the other.
func TestRoomByChance(t *testing.T) {
	t.Parallel()
	met := map[int]int{}
	look := func(c impl.Code, fuel int) {
		want := plainRoomFor(c, fuel)
		needsRoomAlone(t, codeText(c), c, fuel, want)
		met[min(want, 20)]++
		// the most that is needed at once, where it is collected each time
		if end, h := plainRunMach(c, 2000, 1, fuel); h.astray == 0 && (want < 0) != (end == isRoom) || h.astray == 0 && want >= 0 && h.most != want {
			t.Errorf("%s: the most is %d, not %d", codeText(c), h.most, want)
		}
	}
	for _, c := range loweredCodes(t, 100) {
		look(c, 1000)
		look(impl.PackAll(c), 200)
	}
	for _, c := range slices.Concat(anyCodes(500), strayCodes(1500)) {
		look(c, 100)
	}
	for _, text := range sortedKeys(machTerms) {
		look(termCode(t, text), 700)
	}
	if len(met) < 10 || met[0] < 400 || met[3] < 100 || met[6] < 50 || met[20] < 5 {
		t.Error("too few", met)
	}
}

// needsRoomAlone fails when Room is not this.
func needsRoomAlone(t *testing.T, what string, c impl.Code, fuel, want int) {
	t.Helper()
	if got := impl.Room(c, fuel); got != want {
		t.Errorf("%s: Room with %d is %d, not %d", what, fuel, got, want)
	}
}

func TestMachineLimits(t *testing.T) {
	for _, text := range []string{"main 1: num 0 5; ret 0", "main 2: num 0 5; pair 1 0 0; ret 0", "main 1: jump 0", "fun 3 1 2: pair 1 0 0; ret 0 | main 2: num 0 5; make 1 3; call 0 1 0 3; ret 0"} {
		c := toldCode(text)
		for _, size := range []int{0, 1, 2999, 4999, 5000} {
			for _, every := range []int{0, 1, 2, 999, 1000} {
				for _, fuel := range []int{0, 1, impl.MaxFuel - 1, impl.MaxFuel} {
					if end, _ := asPlainMach(t, c, size, every, fuel); end == isNothing {
						t.Error(text, size, every, fuel)
					}
				}
			}
		}
		wrongSizes, wrongEvery, wrongFuel := []int{-1, 5001, math.MinInt, math.MaxInt}, []int{-1, 1001, math.MinInt, math.MaxInt}, []int{-1, impl.MaxFuel + 1, math.MinInt, math.MaxInt}
		for n := range 4 {
			ranMach(t, text, c, wrongSizes[n], 0, 100, isNothing, 0)
			ranMach(t, text, c, wrongSizes[n], 1, impl.MaxFuel, isNothing, 0)
			ranMach(t, text, c, 50, wrongEvery[n], 100, isNothing, 0)
			ranMach(t, text, c, 0, wrongEvery[n], 0, isNothing, 0)
			ranMach(t, text, c, 50, 0, wrongFuel[n], isNothing, 0)
			ranMach(t, text, c, 5000, 1000, wrongFuel[n], isNothing, 0)
			ranMach(t, text, c, wrongSizes[n], wrongEvery[n], wrongFuel[n], isNothing, 0)
			needsRoomAlone(t, text, c, wrongFuel[n], -1)
		}
		for _, fuel := range []int{0, impl.MaxFuel} {
			if got := impl.Room(c, fuel); got < 0 || fuel == 0 && got != 0 {
				t.Error(text, fuel, got)
			}
		}
	}
}

// Each condition of a Code, broken alone and with others.
func TestMachineOfWhatIsNotRight(t *testing.T) {
	t.Parallel()
	changedCodes(t, func(why string, c impl.Code, faults []string) {
		if len(faults) == 0 {
			asPlainMach(t, c, 20, 2, 100)
			needsRoomAlone(t, why, c, 100, plainRoomFor(c, 100))
			return
		}
		for _, every := range []int{0, 1, 1001} {
			if end, n := impl.RunMach(c, 50, every, 100); end != isNothing || n != 0 {
				t.Errorf("%s: %v: %v and %d", why, faults, end, n)
			}
		}
		if got := impl.Room(c, 100); got != -1 {
			t.Errorf("%s: %v: Room is %d", why, faults, got)
		}
	})
}

func TestMachineArgumentsStay(t *testing.T) {
	t.Parallel()
	for _, p := range liveArguments() {
		roomy := roomyPiece(p)
		kept := fullPiece(roomy)
		maps := impl.Maps(roomy)
		for _, list := range maps {
			for at := range list {
				list[at] = 77
			}
			_ = append(list, 78)
		}
		if !reflect.DeepEqual(fullPiece(roomy), kept) {
			t.Fatal("an argument was written to", pieceText(p))
		}
	}
	for _, c := range append(codeArguments(), loweredCodes(t, 20)...) {
		roomy := roomyCode(c)
		kept := fullCode(roomy)
		for _, size := range []int{-1, 0, 5, 50} {
			impl.RunMach(roomy, size, 1, 200)
			impl.RunMach(roomy, size, 0, 200)
		}
		impl.Room(roomy, 200)
		if !reflect.DeepEqual(fullCode(roomy), kept) {
			t.Fatal("an argument was written to", codeText(c))
		}
	}
}

// What lies behind a list's length is not there.
func TestMachineSpareRoomIsNotRead(t *testing.T) {
	t.Parallel()
	for _, p := range liveArguments() {
		if !sameLists(impl.Maps(roomyPiece(p)), impl.Maps(p)) {
			t.Error(pieceText(p))
		}
	}
	for _, c := range append(codeArguments(), loweredCodes(t, 20)...) {
		roomy := roomyCode(c)
		for _, size := range []int{0, 5, 50} {
			for every := range 3 {
				end, n := impl.RunMach(c, size, every, 200)
				ranMach(t, codeText(c), roomy, size, every, 200, end, n)
			}
		}
		needsRoomAlone(t, codeText(c), roomy, 200, impl.Room(c, 200))
	}
}

func TestMapsAreNewMemory(t *testing.T) {
	t.Parallel()
	for _, p := range liveArguments() {
		roomy := roomyPiece(p)
		ownPlaces(t, "Maps of "+pieceText(p), append(listPlaces(impl.Maps(roomy)), listPlaces(impl.Maps(roomy))...), codePlaces(impl.Code{Main: roomy}))
	}
	// many lists that are alike are not one; and what is put behind one is not in another
	p := impl.Piece{In: 3, Regs: 3, Ins: append(slices.Repeat(toldList("call 0 0 1"), 20), toldIns("make 0 3 0 1 2"), toldIns("ret 0"))}
	first := impl.Maps(p)
	for at := range first {
		first[at] = append(first[at], 7)
		first[at][0] = 9
	}
	want := slices.Concat(slices.Repeat([][]int{{1, 2}}, 20), [][]int{{0, 1, 2}, nil})
	if second := impl.Maps(p); !sameLists(second, want) || !slices.Equal(first[3], []int{9, 2, 7}) || !slices.Equal(first[20], []int{9, 1, 2, 7}) || !slices.Equal(first[21], []int{9}) {
		t.Error(second, first)
	}
}

// Nothing is kept from one call to another.
func TestMachineKeepsNothing(t *testing.T) {
	type answer struct {
		end       impl.Outcome
		collected int
		room      int
		maps      [][]int
	}
	codes := slices.Concat(anyCodes(150), loweredCodes(t, 30), codeArguments())
	answers := func(at int, c impl.Code) answer {
		var a answer
		a.end, a.collected = impl.RunMach(c, at%20, at%4, 200)
		a.room = impl.Room(c, 200)
		a.maps = impl.Maps(c.Main)
		return a
	}
	var first []answer
	for at, c := range codes {
		first = append(first, answers(at, c))
	}
	for at, c := range slices.Backward(codes) {
		impl.RunMach(impl.Code{}, 5000, 1, 100)
		impl.RunMach(toldCode("main 2: pair 0 1 1; pair 0 0 0; raise 0; ret 0"), 6, 1, 100)
		impl.Maps(impl.Piece{})
		impl.Room(codes[len(codes)-1-at], 50)
		if second := answers(at, c); !reflect.DeepEqual(first[at], second) {
			t.Error(codeText(c))
		}
	}
}
