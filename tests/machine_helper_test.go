package tests

import (
	"fmt"
	"math/rand"
	"slices"
	"strings"
	"testing"

	"loop.example/g00187/impl"
)

var isRoom = impl.Outcome{End: impl.EndRoom}

// machEnds reads an outcome as ends does, or "room".
func machEnds(told string) impl.Outcome {
	if told == "room" {
		return isRoom
	}
	return ends(told)
}

// plainMaps is what Maps must answer of a right Piece, written anew: of a call what lives at the end of each edge that begins there, but what is overwritten on that edge.
func plainMaps(p impl.Piece) [][]int {
	live := plainLive(p)
	needed := make([]map[int]bool, len(p.Ins))
	for at, i := range p.Ins {
		needed[at] = map[int]bool{}
		if i.Op == 6 || i.Op == 7 || i.Op == 8 {
			for _, reg := range live[at] {
				needed[at][reg] = true
			}
		}
	}
	for _, e := range liveEdges(p) {
		for _, reg := range live[e.to] {
			if p.Ins[e.from].Op == 14 && reg != e.but {
				needed[e.from][reg] = true
			}
		}
	}
	var all [][]int
	for _, regs := range needed {
		all = append(all, setOf(regs))
	}
	return all
}

// plainRoom is how many words an instruction takes.
func plainRoom(i impl.Ins) int {
	switch i.Op {
	case 6, 7:
		return 3
	case 8:
		return len(i.L) + 1
	}
	return 0
}

// plainWords is how many words all have that these reach, each once; there are no places, an object is what it is.
func plainWords(roots []*codeValue) int {
	words := 0
	met := map[*codeValue]bool{}
	for work := slices.Clone(roots); len(work) > 0; {
		v := work[len(work)-1]
		work = work[:len(work)-1]
		if !strings.ContainsRune("plr", rune(v.kind)) || met[v] {
			continue
		}
		met[v] = true
		words += 1 + len(v.parts)
		work = append(work, v.parts...)
	}
	return words
}

// begunPiece is a Piece that was begun, where it is, and its registers.
type begunPiece struct {
	p    impl.Piece
	at   int
	regs map[int]*codeValue
}

// heapCounter goes along with a codeWalker: it counts words, and has no heap.
type heapCounter struct {
	w           *codeWalker
	maps        map[int][][]int
	size, every int
	begun       []begunPiece
	// used are the words that are taken, since the instructions that took room since the last collection.
	used, since, collected int
	full                   bool
	// astray is how often a raise would have gone on elsewhere than at its Guard.
	astray int
	// took is how many instructions took room, most the most words that were needed at once, with those that were wanted.
	took, most int
	// zeroed is how many registers with an object became the number 0, kept how many were roots in Pieces that were calling.
	zeroed, kept int
}

func (h *heapCounter) ahead(p impl.Piece, at int, regs map[int]*codeValue, open []int) {
	h.begun = append(h.begun[:h.w.begun-1], begunPiece{p, at, regs})
	goesOn := -1
	if len(open) > 0 {
		goesOn = open[len(open)-1]
	}
	if strings.Contains(opGoes[p.Ins[at].Op], "r") && goesOn != plainTry(p, at) {
		h.astray++
	}
	words := plainRoom(p.Ins[at])
	if words == 0 {
		return
	}
	h.took++
	h.since++
	lacks := func() bool { return words > 100 || h.used+words > h.size }
	if lacks() || h.since == h.every {
		h.collect(words)
	}
	if lacks() {
		h.full = true
		// the walker ends for lack of fuel then
		h.w.fuel = h.w.steps
		return
	}
	h.used += words
}

func (h *heapCounter) collect(wanted int) {
	var roots []*codeValue
	for n, b := range h.begun {
		if _, known := h.maps[b.p.Lam]; !known {
			h.maps[b.p.Lam] = plainMaps(b.p)
		}
		needed := h.maps[b.p.Lam][b.at]
		for reg, v := range b.regs {
			isObject := strings.ContainsRune("plr", rune(v.kind))
			switch {
			case slices.Contains(needed, reg):
				roots = append(roots, v)
				if isObject && n < len(h.begun)-1 {
					h.kept++
				}
			default:
				if isObject {
					h.zeroed++
				}
				delete(b.regs, reg)
			}
		}
	}
	h.used, h.since = plainWords(roots), 0
	h.collected++
	h.most = max(h.most, h.used+wanted)
}

// plainRunMach is what RunMach must answer of a right Code, written anew.
func plainRunMach(c impl.Code, size, every, fuel int) (impl.Outcome, *heapCounter) {
	w := &codeWalker{code: c, fuel: fuel}
	h := &heapCounter{w: w, maps: map[int][][]int{}, size: size, every: every}
	w.ahead = h.ahead
	end := w.run()
	if h.full {
		end = isRoom
	}
	return end, h
}

// ranMach fails when RunMach does not tell this.
func ranMach(t *testing.T, what string, c impl.Code, size, every, fuel int, want impl.Outcome, collected int) {
	t.Helper()
	if end, n := impl.RunMach(c, size, every, fuel); end != want || n != collected {
		t.Errorf("%s: RunMach with %d, %d, %d: %.200s and %d, not %.200s and %d", what, size, every, fuel, fmt.Sprint(end), n, fmt.Sprint(want), collected)
	}
}

// asPlainMach holds RunMach against the test's own, and, if each raise goes on at its Guard, against RunCode.
func asPlainMach(t *testing.T, c impl.Code, size, every, fuel int) (impl.Outcome, *heapCounter) {
	t.Helper()
	want, h := plainRunMach(c, size, every, fuel)
	ranMach(t, codeText(c), c, size, every, fuel, want, h.collected)
	if was := impl.RunCode(c, fuel); h.astray == 0 && want != isRoom && want != was {
		t.Errorf("%s: with %d, %d, %d it ends with %v, not %v", codeText(c), size, every, fuel, want, was)
	}
	return want, h
}

// machCounts are how often something was met.
type machCounts struct{ values, raises, fuel, room, collected, kept, zeroed int }

func (n *machCounts) count(end impl.Outcome, h *heapCounter) {
	switch end.End {
	case impl.EndValue:
		n.values++
	case impl.EndRaise:
		n.raises++
	case impl.EndFuel:
		n.fuel++
	case impl.EndRoom:
		n.room++
	}
	n.collected += h.collected
	n.kept += h.kept
	n.zeroed += h.zeroed
}

// ranAnyHow runs a Code on heaps of these sizes, collected now and then, with fuel that is just enough and that is one less.
func ranAnyHow(t *testing.T, c impl.Code, sizes []int, most int, n *machCounts) {
	t.Helper()
	_, w := plainRunCode(c, most)
	fuels := []int{most, w.steps}
	if w.steps > 0 {
		fuels = append(fuels, w.steps-1)
	}
	for _, size := range sizes {
		for _, every := range []int{0, 1, 2, 3, 5} {
			for _, fuel := range fuels {
				n.count(asPlainMach(t, c, size, every, fuel))
			}
		}
	}
}

// plainRoomFor tries one size after the other.
func plainRoomFor(c impl.Code, fuel int) int {
	for size := range 2001 {
		if end, _ := impl.RunMach(c, size, 0, fuel); end.End != impl.EndRoom {
			return size
		}
	}
	return -1
}

// needsRoom fails when Room is not this, or RunMach does not go by it.
func needsRoom(t *testing.T, what string, c impl.Code, fuel, want int) {
	t.Helper()
	if got := impl.Room(c, fuel); got != want {
		t.Errorf("%s: Room with %d is %d, not %d", what, fuel, got, want)
	}
	if want >= 0 {
		if end, _ := impl.RunMach(c, want, 0, fuel); end == isRoom || end == isNothing {
			t.Errorf("%s: with %d it ends with %v", what, want, end)
		}
	}
	for _, less := range []int{want - 1, want / 2, 0} {
		if end, _ := impl.RunMach(c, less, 0, fuel); less >= 0 && less < want && end != isRoom {
			t.Errorf("%s: with %d, less than %d, it ends with %v", what, less, want, end)
		}
	}
	if end, _ := impl.RunMach(c, 2000, 0, fuel); want < 0 && end != isRoom {
		t.Errorf("%s: with 2000 it ends with %v", what, end)
	}
}

// strayCodes are right Codes, found by chance, always the same ones, in which jumps lead into and out of what is tried; where a raise goes on, each register is read.
func strayCodes(n int) []impl.Code {
	r := rand.New(rand.NewSource(131))
	var all []impl.Code
	for len(all) < n {
		places := 8 + r.Intn(12)
		ins := toldList("bool 0 1; num 1 5; nil 2; num 3 7; make 4 3")
		for at := len(ins); at < places; at++ {
			reg := r.Intn(4)
			i := impl.Ins{Op: 6 + r.Intn(2), D: reg, X: 3, Y: r.Intn(4)}
			switch r.Intn(8) {
			case 0, 1:
				i = impl.Ins{Op: 17, D: reg, To: places}
			case 2:
				i = impl.Ins{Op: 18}
			case 3:
				i = impl.Ins{Op: 13, To: at + 1 + r.Intn(places-at)}
			case 4:
				i = impl.Ins{Op: 14, D: reg, X: 4, Y: 3, L: []int{3}}
			case 5:
				i = impl.Ins{Op: 16, X: 3}
			}
			ins = append(ins, i)
		}
		ins = append(ins, toldList("pair 0 0 1; pair 0 0 2; pair 0 0 3; ret 0")...)
		c := toldCode("fun 3 1 2: pair 1 0 0; raise 0; ret 1 | main 5: ret 0")
		c.Main.Ins = ins
		all = append(all, c)
	}
	return all
}

// termCode is the Code of a term that is ready.
func termCode(t *testing.T, text string) impl.Code {
	t.Helper()
	p, ok := impl.Defun(parsedTerm(t, text))
	c, is := impl.Lower(p)
	if !ok || !is {
		t.Fatalf("the test's own: %s: %v, %v", text, ok, is)
	}
	return c
}

// machCase is a Code as toldCode reads it, what it ends with, and how often words are collected then.
type machCase struct {
	text        string
	size, every int
	told        string
	collected   int
}

func ranMachs(t *testing.T, cases []machCase) {
	t.Helper()
	for _, m := range cases {
		c := toldCode(m.text)
		codeIs(t, m.text, c, "")
		want := machEnds(m.told)
		if end, h := plainRunMach(c, m.size, m.every, impl.MaxFuel); end != want || h.collected != m.collected {
			t.Errorf("the test's own: %s with %d, %d: %v and %d, not %v and %d", m.text, m.size, m.every, end, h.collected, want, m.collected)
		}
		ranMach(t, m.text, c, m.size, m.every, impl.MaxFuel, want, m.collected)
	}
}

// mapCase is a right Piece as toldPiece reads it, and its Maps.
type mapCase struct{ text, maps string }

func mappedTo(t *testing.T, p impl.Piece, want [][]int) {
	t.Helper()
	if own := plainMaps(p); !sameLists(own, want) {
		t.Errorf("the test's own: %s: %v, not %v", pieceText(p), own, want)
	}
	if got := impl.Maps(p); !sameLists(got, want) {
		t.Errorf("%s: Maps are %v, not %v", pieceText(p), got, want)
	}
}

func mappedAll(t *testing.T, cases []mapCase) {
	t.Helper()
	for _, c := range cases {
		p := toldPiece(c.text)
		if faults := pieceFaults(p); len(faults) > 0 {
			t.Errorf("the test's own: %s: %v", c.text, faults)
		}
		mappedTo(t, p, toldLists(c.maps))
	}
}

func listPlaces(lists [][]int) []any {
	var places []any
	room := lists[:cap(lists)]
	for at := range room {
		places = append(places, &room[at])
		places = append(places, intPlaces(room[at])...)
	}
	return places
}
