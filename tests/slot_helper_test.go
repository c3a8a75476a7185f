package tests

import (
	"fmt"
	"reflect"
	"slices"
	"strings"
	"testing"

	"loop.example/g00187/impl"
)

// toldPairs reads pairs with "," between; "" is none.
func toldPairs(text string) [][2]int {
	var all [][2]int
	if text == "" {
		return nil
	}
	for _, list := range toldLists(text) {
		if len(list) != 2 {
			panic("the test's own: " + text)
		}
		all = append(all, [2]int{list[0], list[1]})
	}
	return all
}

// plainClashes is what Clashes must answer of a right Piece, written anew: any two registers are asked for, one after the other.
func plainClashes(p impl.Piece) [][2]int {
	lives := make([][]bool, len(p.Ins))
	nexts := make([][]int, len(p.Ins))
	for at, list := range plainLive(p) {
		lives[at] = make([]bool, p.Regs)
		for _, reg := range list {
			lives[at][reg] = true
		}
		nexts[at] = plainNexts(p, at)
	}
	clash := func(one, other int) bool {
		for at, i := range p.Ins {
			if lives[at][one] && lives[at][other] {
				return true
			}
			if i.Op == 17 && (i.D == one && lives[i.To][other] || i.D == other && lives[i.To][one]) {
				return true
			}
			for _, next := range nexts[at] {
				if w := plainWrites(i); w == one && lives[next][other] || w == other && lives[next][one] {
					return true
				}
			}
		}
		return false
	}
	var all [][2]int
	for one := range p.Regs {
		for other := one + 1; other < p.Regs; other++ {
			if other < p.In || clash(one, other) {
				all = append(all, [2]int{one, other})
			}
		}
	}
	return all
}

// plainSlots are the slots of so many registers, tried one after the other, of which these two and two clash.
func plainSlots(regs int, clashes [][2]int) []int {
	lesser := make([][]int, regs)
	for _, pair := range clashes {
		lesser[pair[1]] = append(lesser[pair[1]], pair[0])
	}
	var slots []int
	for reg := range regs {
		slot := 0
		for slices.ContainsFunc(lesser[reg], func(other int) bool { return slots[other] == slot }) {
			slot++
		}
		slots = append(slots, slot)
	}
	return slots
}

// plainPack is what Pack must answer of a right Piece with these slots, written anew.
func plainPack(p impl.Piece, slots []int) impl.Piece {
	packed := impl.Piece{Lam: p.Lam, In: p.In, Regs: p.In}
	for _, slot := range slots {
		packed.Regs = max(packed.Regs, slot+1)
	}
	for _, i := range p.Ins {
		was := i
		i.L = nil
		for _, field := range opFields[i.Op] {
			switch {
			case field == 'D' || field == 'X' || field == 'Y':
				*fieldAt(&i, field) = slots[*fieldAt(&was, field)]
			case field == 'L' && i.Op == 8:
				for _, reg := range was.L {
					i.L = append(i.L, slots[reg])
				}
			case field == 'L':
				i.L = append(i.L, was.L...)
			}
		}
		packed.Ins = append(packed.Ins, i)
	}
	return packed
}

func plainPackAll(c impl.Code) impl.Code {
	pack := func(p impl.Piece) impl.Piece { return plainPack(p, plainSlots(p.Regs, plainClashes(p))) }
	packed := impl.Code{Main: pack(c.Main)}
	for _, p := range c.Funs {
		packed.Funs = append(packed.Funs, pack(p))
	}
	return packed
}

func equalPieces(a, b impl.Piece) bool { return reflect.DeepEqual(evenPiece(a), evenPiece(b)) }

// slotFaults are the conditions of SlotsOk that these slots break, by their names, sorted, each once.
func slotFaults(p impl.Piece, clashes [][2]int, slots []int) []string {
	if len(pieceFaults(p)) > 0 {
		return []string{"piece"}
	}
	if len(slots) != p.Regs {
		return []string{"count"}
	}
	faults := map[string]bool{}
	for reg, slot := range slots {
		if slot < 0 {
			faults["below 0"] = true
		}
		if reg < p.In && slot != reg {
			faults["first"] = true
		}
	}
	for _, pair := range clashes {
		if slots[pair[0]] == slots[pair[1]] {
			faults["shared"] = true
		}
	}
	return sortedKeys(faults)
}

// slotsAre fails when SlotsOk is not so; faults are those that are broken, with ", " between.
func slotsAre(t *testing.T, why string, p impl.Piece, clashes [][2]int, slots []int, faults string) {
	t.Helper()
	if own := strings.Join(slotFaults(p, clashes, slots), ", "); own != faults {
		t.Errorf("the test's own: %s: %s: %v: %q, not %q", why, pieceText(p), slots, own, faults)
	}
	if got := impl.SlotsOk(p, slots); got != (faults == "") {
		t.Errorf("%s: %s: SlotsOk of %v is %v (%s)", why, pieceText(p), slots, got, faults)
	}
}

// slotted fails when a right Piece does not have these clashes and these slots, or is not packed to this one.
func slotted(t *testing.T, p impl.Piece, clashes [][2]int, slots []int, packed impl.Piece) {
	t.Helper()
	if got := impl.Clashes(p); !slices.Equal(got, clashes) {
		t.Errorf("%s: clashes %v, not %v", pieceText(p), got, clashes)
	}
	if got := impl.Slots(p); !slices.Equal(got, slots) {
		t.Errorf("%s: slots %v, not %v", pieceText(p), got, slots)
	}
	if got := impl.Pack(p); !equalPieces(got, packed) {
		t.Errorf("%s: packed to %s, not %s", pieceText(p), pieceText(got), pieceText(packed))
	}
	slotsAre(t, "least", p, clashes, slots, "")
	slotsAre(t, "each its own", p, clashes, ownSlots(p), "")
	if faults := pieceFaults(packed); len(faults) > 0 {
		t.Errorf("%s: packed it breaks %v", pieceText(packed), faults)
	}
}

// asPlainSlots holds all functions of the chapter, of a right Piece, against the test's own; it tells the clashes and the slots.
func asPlainSlots(t *testing.T, p impl.Piece) ([][2]int, []int) {
	t.Helper()
	clashes := plainClashes(p)
	slots := plainSlots(p.Regs, clashes)
	slotted(t, p, clashes, slots, plainPack(p, slots))
	return clashes, slots
}

// ownSlots has for each register its own slot.
func ownSlots(p impl.Piece) []int {
	var slots []int
	for reg := range min(max(p.Regs, 0), 500) {
		slots = append(slots, reg)
	}
	return slots
}

// slotCase is a right Piece as toldPiece reads it, its clashes, its slots, and what it is packed to.
type slotCase struct{ text, pairs, slots, packed string }

func slottedAll(t *testing.T, cases []slotCase) {
	t.Helper()
	for _, c := range cases {
		p := toldPiece(c.text)
		clashes, slots := asPlainSlots(t, p)
		if !slices.Equal(clashes, toldPairs(c.pairs)) || !slices.Equal(slots, toldNumbers(c.slots)) || !equalPieces(plainPack(p, slots), toldPiece(c.packed)) {
			t.Errorf("the test's own: %s: %v, %v, %s", c.text, clashes, slots, pieceText(plainPack(p, slots)))
		}
		slotted(t, p, toldPairs(c.pairs), toldNumbers(c.slots), toldPiece(c.packed))
	}
}

// notSlotted fails when what is not right clashes, has slots, or is packed to anything but itself.
func notSlotted(t *testing.T, why string, p impl.Piece, faults string) {
	t.Helper()
	if own := strings.Join(pieceFaults(p), ", "); own != faults || faults == "" {
		t.Errorf("the test's own: %s: %q, not %q", why, own, faults)
	}
	kept := evenPiece(p)
	if got := impl.Clashes(p); len(got) != 0 {
		t.Errorf("%s: clashes %v", why, got)
	}
	if got := impl.Slots(p); len(got) != 0 {
		t.Errorf("%s: slots %v", why, got)
	}
	for _, slots := range [][]int{nil, {}, {0}, {0, 1}, ownSlots(p), make([]int, min(max(p.Regs, 0), 500))} {
		slotsAre(t, why, p, nil, slots, "piece")
	}
	if got := impl.Pack(p); !reflect.DeepEqual(evenPiece(got), kept) {
		t.Errorf("%s: packed to %s", why, pieceText(got))
	}
}

// packedAll fails when PackAll of a right Code is not as the test's own, or not right.
func packedAll(t *testing.T, c impl.Code) impl.Code {
	t.Helper()
	got, want := impl.PackAll(c), plainPackAll(c)
	if !equalCodes(got, want) {
		t.Errorf("%s packed to\n%s, not\n%s", codeText(c), codeText(got), codeText(want))
	}
	codeIs(t, "packed", got, "")
	return got
}

// endsPacked fails when a packed Code does not end just the same, with each fuel up to enough; it tells the end and the steps.
func endsPacked(t *testing.T, c impl.Code, most int) (impl.Outcome, *codeWalker) {
	t.Helper()
	packed := packedAll(t, c)
	want, w := plainRunCode(c, most)
	for fuel := range w.steps + 3 {
		if got, was := impl.RunCode(packed, fuel), impl.RunCode(c, fuel); got != was {
			t.Errorf("%s packed to\n%s: with %d it ends with %v, not %v", codeText(c), codeText(packed), fuel, got, was)
			break
		}
	}
	got, after := plainRunCode(packed, most)
	if got != want || after.steps != w.steps || after.caught != w.caught || after.noCase != w.noCase || after.wrong != w.wrong || impl.RunCode(packed, most) != want {
		t.Errorf("%s packed to\n%s: ends with %v in %d, not %v in %d", codeText(c), codeText(packed), got, after.steps, want, w.steps)
	}
	return want, w
}

// seenAhead tells, ahead of each instruction that is met, what the registers have that live there in c; of is c or what it is packed to, place where that has a register.
func seenAhead(c, of impl.Code, place func(lam, reg int) int, fuel int) []string {
	lists := map[int][][]int{}
	for _, p := range piecesOf(&c) {
		lists[p.Lam] = plainLive(*p)
	}
	var seen []string
	w := &codeWalker{code: of, fuel: fuel}
	w.ahead = func(p impl.Piece, at int, regs map[int]*codeValue, _ []int) {
		s := fmt.Sprint(p.Lam, " at ", at, ":")
		for _, reg := range lists[p.Lam][at] {
			s += fmt.Sprint(" ", reg, "=", codeShown(codeRead(regs, place(p.Lam, reg))))
		}
		seen = append(seen, s)
	}
	w.run()
	return seen
}

// keepsWhatLives fails when, packed, a register that lives has not what it has unpacked; it tells how often one was read in another place than its own.
func keepsWhatLives(t *testing.T, c impl.Code, fuel int) int {
	t.Helper()
	slots := map[int][]int{}
	for _, p := range piecesOf(&c) {
		slots[p.Lam] = impl.Slots(*p)
	}
	moved := 0
	want := seenAhead(c, c, func(_, reg int) int { return reg }, fuel)
	got := seenAhead(c, impl.PackAll(c), func(lam, reg int) int {
		if slots[lam][reg] != reg {
			moved++
		}
		return slots[lam][reg]
	}, fuel)
	if !slices.Equal(got, want) {
		t.Errorf("%s packed: %v, not %v", codeText(c), got, want)
	}
	return moved
}

// evenRaises tells whether each raise that c meets goes on at its Guard, and no Fun reads what neither was written nor handed in.
func evenRaises(c impl.Code, fuel int) bool {
	even := true
	for _, p := range c.Funs {
		for _, reg := range plainLive(p)[0] {
			even = even && reg < p.In
		}
	}
	w := &codeWalker{code: c, fuel: fuel}
	w.ahead = func(p impl.Piece, at int, _ map[int]*codeValue, open []int) {
		goesOn := -1
		if len(open) > 0 {
			goesOn = open[len(open)-1]
		}
		if strings.Contains(opGoes[p.Ins[at].Op], "r") && goesOn != plainTry(p, at) {
			even = false
		}
	}
	w.run()
	return even
}
