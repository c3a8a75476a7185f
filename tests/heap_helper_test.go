package tests

import (
	"fmt"
	"math"
	"math/rand"
	"slices"
	"strconv"
	"strings"
	"testing"

	"loop.example/g00187/impl"
)

func wdNum(n int) impl.Word { return impl.Word{K: impl.WdNum, N: n} }
func wdPtr(n int) impl.Word { return impl.Word{K: impl.WdPtr, N: n} }

// toldWords reads numbers, t, u, nil, and @ with a place behind it.
func toldWords(text string) []impl.Word {
	var all []impl.Word
	for _, word := range strings.Fields(text) {
		digits, isPtr := strings.CutPrefix(word, "@")
		n, err := strconv.Atoi(digits)
		switch {
		case word == "t":
			all = append(all, impl.Word{K: impl.WdBool, N: 1})
		case word == "u":
			all = append(all, impl.Word{K: impl.WdBool})
		case word == "nil":
			all = append(all, impl.Word{K: impl.WdNil})
		case err != nil:
			panic(err)
		case isPtr:
			all = append(all, wdPtr(n))
		default:
			all = append(all, wdNum(n))
		}
	}
	return all
}

// toldHeap reads a size, ":", and objects with ";" between: pair or cons and its two words; rec, its Lam, and its words.
func toldHeap(text string) impl.Heap {
	size, objects, ok := strings.Cut(text, ":")
	n, err := strconv.Atoi(size)
	if !ok || err != nil {
		panic("the test's own: " + text)
	}
	h := impl.Heap{Size: n}
	for _, object := range strings.Split(objects, ";") {
		kind, words, _ := strings.Cut(strings.TrimSpace(object), " ")
		fields := toldWords(words)
		switch kind {
		case "pair":
			h.Cells = append(append(h.Cells, impl.Word{K: impl.WdPair}), fields...)
		case "cons":
			h.Cells = append(append(h.Cells, impl.Word{K: impl.WdCons}), fields...)
		case "rec":
			h.Cells = append(append(h.Cells, impl.Word{K: impl.WdRec, N: 100*fields[0].N + len(fields) - 1}), fields[1:]...)
		case "":
		default:
			panic("the test's own: " + text)
		}
	}
	return h
}

func wordsText(words []impl.Word) string {
	var all []string
	for _, w := range words {
		if w.K < 1 || w.K > 7 {
			all = append(all, fmt.Sprint(w))
		} else {
			all = append(all, []string{"num ", "bool ", "nil ", "@", "pair ", "cons ", "rec "}[w.K-1]+strconv.Itoa(w.N))
		}
	}
	if len(all) > 60 {
		all = append(all[:60], "..")
	}
	return "{" + strings.Join(all, " ") + "}"
}

func heapText(h impl.Heap) string { return fmt.Sprint(h.Size, wordsText(h.Cells)) }

func equalHeaps(a, b impl.Heap) bool { return a.Size == b.Size && slices.Equal(a.Cells, b.Cells) }

// plainHeads has of each head's place how many fields it has, and the fault for which no more are found.
func plainHeads(cells []impl.Word) (map[int]int, string) {
	heads := map[int]int{}
	for left := cells; len(left) > 0; {
		head, fields := left[0], 2
		switch {
		case head.K < impl.WdPair || head.K > impl.WdRec:
			return heads, "no head"
		case head.K != impl.WdRec && head.N != 0, head.N < 0, head.N > 14999:
			return heads, "head's number"
		case head.K == impl.WdRec:
			fields = head.N - head.N/100*100
		}
		if len(left) < fields+1 {
			return heads, "short"
		}
		heads[len(cells)-len(left)] = fields
		left = left[fields+1:]
	}
	return heads, ""
}

// wordFault is the condition of a field, or of a root, that w breaks, by its name, where these are the heads.
func wordFault(heads map[int]int, length int, w impl.Word) string {
	_, isHead := heads[w.N]
	switch {
	case w.K == 1 && (w.N > 1000000 || w.N < -1000000):
		return "number"
	case w.K == 2 && w.N != 0 && w.N != 1:
		return "truth"
	case w.K == 3 && w.N != 0:
		return "nil"
	case w.K == 4 && (w.N < 0 || w.N >= length):
		return "place"
	case w.K == 4 && !isHead:
		return "to a field"
	case w.K >= 5 && w.K <= 7:
		return "head"
	case w.K < 1 || w.K > 7:
		return "kind"
	}
	return ""
}

// heapFaults are the conditions of a right Heap that are broken, by their names, sorted, each once; fields are asked for where all heads are right.
func heapFaults(h impl.Heap) []string {
	faults := map[string]bool{}
	if h.Size < 0 || h.Size > 5000 {
		faults["size"] = true
	}
	if len(h.Cells) > h.Size {
		faults["long"] = true
	}
	heads, fault := plainHeads(h.Cells)
	if fault != "" {
		faults[fault] = true
		return sortedKeys(faults)
	}
	for at, fields := range heads {
		for _, w := range h.Cells[at+1 : at+1+fields] {
			if fault := wordFault(heads, len(h.Cells), w); fault != "" {
				faults[fault] = true
			}
		}
	}
	return sortedKeys(faults)
}

// plainCollect is what Collect must answer of what is right, written anew: each object is copied where it is met first, and the copies are gone through from the first word on, while they grow.
func plainCollect(h impl.Heap, roots []impl.Word) (impl.Heap, []impl.Word) {
	heads, _ := plainHeads(h.Cells)
	now := map[int]int{}
	var cells []impl.Word
	forward := func(w impl.Word) impl.Word {
		if w.K != impl.WdPtr {
			return w
		}
		if _, ok := now[w.N]; !ok {
			now[w.N] = len(cells)
			cells = append(cells, h.Cells[w.N:w.N+1+heads[w.N]]...)
		}
		return wdPtr(now[w.N])
	}
	var own []impl.Word
	for _, w := range roots {
		own = append(own, forward(w))
	}
	for scan := 0; scan < len(cells); scan++ {
		w := forward(cells[scan])
		cells[scan] = w
	}
	return impl.Heap{Size: h.Size, Cells: cells}, own
}

// plainReached marks one object after the other, over and over, till no more is marked.
func plainReached(h impl.Heap, roots []impl.Word) int {
	heads, _ := plainHeads(h.Cells)
	marked := map[int]bool{}
	mark := func(words []impl.Word) {
		for _, w := range words {
			if w.K == impl.WdPtr {
				marked[w.N] = true
			}
		}
	}
	mark(roots)
	for before := -1; before < len(marked); {
		before = len(marked)
		for at, fields := range heads {
			if marked[at] {
				mark(h.Cells[at+1 : at+1+fields])
			}
		}
	}
	words := 0
	for at := range marked {
		words += 1 + heads[at]
	}
	return words
}

// plainPart is what is still to be told: a text, a word, or the rest of a list.
type plainPart struct {
	text   string
	word   impl.Word
	isRest bool
}

// plainShow is the text of w, where so many words may be looked at; what is still to be told stands on a stack.
func plainShow(h impl.Heap, w impl.Word, left int) string {
	var text strings.Builder
	looks := func() bool {
		left--
		if left < 0 {
			text.WriteByte('.')
			left = 0
			return false
		}
		return true
	}
	parts := []plainPart{{word: w}}
	for len(parts) > 0 {
		part := parts[len(parts)-1]
		parts = parts[:len(parts)-1]
		w := part.word
		var object []impl.Word
		if w.K == impl.WdPtr {
			object = h.Cells[w.N:]
		}
		switch {
		case part.text != "":
			text.WriteString(part.text)
		case part.isRest:
			if w.K == impl.WdPtr && object[0].K == impl.WdCons {
				text.WriteByte(',')
				if looks() {
					parts = append(parts, plainPart{word: object[2], isRest: true}, plainPart{word: object[1]})
				}
			}
		case !looks():
		case w.K == impl.WdNum:
			text.WriteString(strconv.Itoa(w.N))
		case w.K == impl.WdBool:
			text.WriteString("ut"[w.N : w.N+1])
		case w.K == impl.WdNil:
			text.WriteString("[]")
		case object[0].K == impl.WdRec:
			text.WriteString("fn")
		case object[0].K == impl.WdPair:
			parts = append(parts, plainPart{text: ")"}, plainPart{word: object[2]}, plainPart{text: ","}, plainPart{word: object[1]}, plainPart{text: "("})
		default:
			parts = append(parts, plainPart{text: "]"}, plainPart{word: object[2], isRest: true}, plainPart{word: object[1]}, plainPart{text: "["})
		}
	}
	return text.String()
}

// graphText tells all that roots reach, what records have with it, each object by the number with which it is met; it tells nothing of places.
func graphText(h impl.Heap, roots []impl.Word) string {
	heads, _ := plainHeads(h.Cells)
	met := map[int]int{}
	var text strings.Builder
	words := slices.Clone(roots)
	for len(words) > 0 {
		w := words[len(words)-1]
		words = words[:len(words)-1]
		if w.K != impl.WdPtr {
			fmt.Fprint(&text, w, " ")
			continue
		}
		number, ok := met[w.N]
		if ok {
			fmt.Fprint(&text, "#", number, " ")
			continue
		}
		met[w.N] = len(met)
		fmt.Fprint(&text, h.Cells[w.N], "< ")
		words = append(words, h.Cells[w.N+1:w.N+1+heads[w.N]]...)
	}
	return text.String()
}

// collectedTo fails when a right heap with right roots is not collected to this.
func collectedTo(t *testing.T, h impl.Heap, roots []impl.Word, want impl.Heap, wantRoots []impl.Word) {
	t.Helper()
	if got, own := impl.Collect(h, roots); !equalHeaps(got, want) || !slices.Equal(own, wantRoots) {
		t.Errorf("%s with %s: collected to %s with %s, not %s with %s", heapText(h), wordsText(roots), heapText(got), wordsText(own), heapText(want), wordsText(wantRoots))
	}
}

// asPlainHeap holds Collect, Reached and Show of a right heap with right roots against the test's own, and asks for all that follows.
func asPlainHeap(t *testing.T, h impl.Heap, roots []impl.Word) (impl.Heap, []impl.Word) {
	t.Helper()
	heapIs(t, "right", h, "")
	want, wantRoots := plainCollect(h, roots)
	collectedTo(t, h, roots, want, wantRoots)
	got, own := impl.Collect(h, roots)
	if reached, plain := impl.Reached(h, roots), plainReached(h, roots); reached != plain || reached != len(got.Cells) {
		t.Errorf("%s with %s: reached %d, not %d; %d are left", heapText(h), wordsText(roots), reached, plain, len(got.Cells))
	}
	heapIs(t, "collected", got, "")
	if was, is := graphText(h, roots), graphText(got, own); was != is {
		t.Errorf("%s with %s: collected it has %s, not %s", heapText(h), wordsText(roots), is, was)
	}
	for at, w := range roots {
		showsAsPlain(t, h, w)
		if was, is := impl.Show(h, w), impl.Show(got, own[at]); was != is {
			t.Errorf("%s with %s: root %d shows %.200s, not %.200s", heapText(h), wordsText(roots), at, is, was)
		}
	}
	collectedTo(t, got, own, got, own)
	if reached := impl.Reached(got, own); reached != len(got.Cells) {
		t.Errorf("%s with %s: collected, %d are reached", heapText(got), wordsText(own), reached)
	}
	return got, own
}

func showsAsPlain(t *testing.T, h impl.Heap, w impl.Word) string {
	t.Helper()
	want := plainShow(h, w, 6000)
	if got := impl.Show(h, w); got != want {
		t.Errorf("%s: %v shows %.300s, not %.300s", heapText(h), w, got, want)
	}
	return want
}

// heapIs fails when HeapOk is not so; faults are those that are broken, with ", " between.
func heapIs(t *testing.T, why string, h impl.Heap, faults string) {
	t.Helper()
	if own := strings.Join(heapFaults(h), ", "); own != faults {
		t.Errorf("the test's own: %s: %s: %q, not %q", why, heapText(h), own, faults)
	}
	if got := impl.HeapOk(h); got != (faults == "") {
		t.Errorf("%s: %s: HeapOk is %v (%s)", why, heapText(h), got, faults)
	}
}

// allocated fails when the object does not come behind the others.
func allocated(t *testing.T, h impl.Heap, head impl.Word, fields []impl.Word) (impl.Heap, impl.Word) {
	t.Helper()
	want := impl.Heap{Size: h.Size, Cells: slices.Concat(h.Cells, []impl.Word{head}, fields)}
	got, ptr, ok := impl.Alloc(h, head, fields)
	if !ok || !equalHeaps(got, want) || ptr != wdPtr(len(h.Cells)) {
		t.Errorf("%s: Alloc of %s: %s, %v, %v", heapText(h), wordsText(append([]impl.Word{head}, fields...)), heapText(got), ptr, ok)
	}
	heapIs(t, "allocated", want, "")
	return got, ptr
}

func notAllocated(t *testing.T, why string, h impl.Heap, head impl.Word, fields []impl.Word) {
	t.Helper()
	if got, ptr, ok := impl.Alloc(h, head, fields); ok || ptr != (impl.Word{}) || !equalHeaps(got, h) {
		t.Errorf("%s: %s: Alloc of %s: %s, %v, %v", why, heapText(h), wordsText(append([]impl.Word{head}, fields...)), heapText(got), ptr, ok)
	}
}

func notCollected(t *testing.T, why string, h impl.Heap, roots []impl.Word) {
	t.Helper()
	collectedTo(t, h, roots, h, roots)
	if reached := impl.Reached(h, roots); reached != 0 {
		t.Errorf("%s: %s with %s: %d are reached", why, heapText(h), wordsText(roots), reached)
	}
}

// notHeap fails when one of the functions answers anything of a heap that is not right.
func notHeap(t *testing.T, why string, h impl.Heap, faults string) {
	t.Helper()
	heapIs(t, why, h, faults)
	notAllocated(t, why, h, impl.Word{K: impl.WdPair}, toldWords("1 2"))
	notAllocated(t, why, h, impl.Word{K: impl.WdRec}, nil)
	for _, roots := range []string{"", "1", "nil t", "@0", "7 @0"} {
		notCollected(t, why, h, toldWords(roots))
	}
	for _, w := range toldWords("1 t nil @0") {
		if got := impl.Show(h, w); got != "" {
			t.Errorf("%s: %s: %v shows %.200s", why, heapText(h), w, got)
		}
	}
}

// rightWords and wrongWords are of a heap with these cells; wrongWords by what they break.
func rightWords(cells []impl.Word) []impl.Word {
	all := toldWords("0 1 -1 999999 1000000 -1000000 t u nil")
	heads, _ := plainHeads(cells)
	for at := range cells {
		if _, ok := heads[at]; ok {
			all = append(all, wdPtr(at))
		}
	}
	return all
}

func wrongWords(cells []impl.Word) map[string][]impl.Word {
	wrong := map[string][]impl.Word{
		"number": toldWords("1000001 -1000001 9223372036854775807 -9223372036854775808"),
		"truth":  {{K: impl.WdBool, N: 2}, {K: impl.WdBool, N: -1}, {K: impl.WdBool, N: math.MaxInt}, {K: impl.WdBool, N: math.MinInt}},
		"nil":    {{K: impl.WdNil, N: 1}, {K: impl.WdNil, N: -1}, {K: impl.WdNil, N: math.MaxInt}},
		"place":  {wdPtr(len(cells)), wdPtr(len(cells) + 1), wdPtr(4999), wdPtr(5000), wdPtr(-1), wdPtr(-2), wdPtr(math.MaxInt), wdPtr(math.MinInt)},
		"head":   {{K: impl.WdPair}, {K: impl.WdCons}, {K: impl.WdRec}, {K: impl.WdRec, N: 301}, {K: impl.WdPair, N: 1}},
		"kind":   {{}, {N: 1}, {K: -1}, {K: 8}, {K: 8, N: 3}, {K: 100}, {K: math.MaxInt}, {K: math.MinInt, N: math.MinInt}},
	}
	heads, _ := plainHeads(cells)
	for at := range cells {
		if _, ok := heads[at]; !ok {
			wrong["to a field"] = append(wrong["to a field"], wdPtr(at))
		}
	}
	return wrong
}

// grown is a value whose text the test makes beside the heap; looks are how many words it takes to show it, within how many of them a list's parts take, behind the one for the list.
type grown struct {
	word          impl.Word
	text          string
	parts         string
	looks, within int
}

// grower builds a heap by Alloc alone; cells are what it must have.
type grower struct {
	t      *testing.T
	h      impl.Heap
	cells  []impl.Word
	values []grown
	made   map[int]grown
}

func newGrower(t *testing.T, size int) *grower {
	g := &grower{t: t, h: impl.HeapNew(size), made: map[int]grown{}}
	for _, w := range toldWords("0 5 -7 1000000 -1000000") {
		g.values = append(g.values, grown{word: w, text: strconv.Itoa(w.N), looks: 1})
	}
	for text, w := range map[string]string{"t": "t", "u": "u", "[]": "nil"} {
		g.values = append(g.values, grown{word: toldWords(w)[0], text: text, looks: 1})
	}
	slices.SortFunc(g.values, func(a, b grown) int { return strings.Compare(a.text, b.text) })
	return g
}

// add is the object of these, or false where there is no room for it.
func (g *grower) add(head impl.Word, of ...grown) (grown, bool) {
	g.t.Helper()
	var fields []impl.Word
	for _, v := range of {
		fields = append(fields, v.word)
	}
	if len(g.cells)+1+len(of) > g.h.Size {
		notAllocated(g.t, "no room", g.h, head, fields)
		return grown{}, false
	}
	v := grown{word: wdPtr(len(g.cells)), text: "fn", looks: 1}
	g.h, _ = allocated(g.t, g.h, head, fields)
	g.cells = append(append(g.cells, head), fields...)
	if !slices.Equal(g.h.Cells, g.cells) {
		g.t.Fatalf("%s, not %s", heapText(g.h), wordsText(g.cells))
	}
	switch head.K {
	case impl.WdPair:
		v.text = "(" + of[0].text + "," + of[1].text + ")"
		v.looks = 1 + of[0].looks + of[1].looks
	case impl.WdCons:
		v.parts, v.within = of[0].text, of[0].looks
		if of[1].within > 0 {
			v.parts += "," + of[1].parts
			v.within += 1 + of[1].within
		}
		v.text, v.looks = "["+v.parts+"]", 1+v.within
	}
	g.values = append(g.values, v)
	return v, true
}

// shows fails when v does not show its text; only such as take no more than 6000 words are asked for.
func (g *grower) shows(v grown) {
	g.t.Helper()
	if got := impl.Show(g.h, v.word); v.looks <= 6000 && got != v.text {
		g.t.Errorf("%s: %v shows %.200s, not %.200s", heapText(g.h), v.word, got, v.text)
	}
}

// any is one of the values so far, most often one of the last, and none with a long text.
func (g *grower) any(r *rand.Rand) grown {
	for {
		least := 0
		if r.Intn(2) == 0 {
			least = max(0, len(g.values)-4)
		}
		if v := g.values[least+r.Intn(len(g.values)-least)]; v.looks < 4000 {
			return v
		}
	}
}

// ofLooks is a value that takes just so many words to show, of few words: pairs share their parts.
func (g *grower) ofLooks(looks int) grown {
	g.t.Helper()
	v, ok := g.made[looks]
	switch {
	case ok:
		return v
	case looks == 1:
		v = g.values[slices.IndexFunc(g.values, func(v grown) bool { return v.text == "5" })]
	case looks == 2:
		v = g.list(g.ofLooks(1))
	case looks%2 == 1:
		part := g.ofLooks(looks / 2)
		v = g.pair(part, part)
	default:
		v = g.pair(g.ofLooks(2), g.ofLooks(looks-3))
	}
	g.made[looks] = v
	return v
}

// list is the list of these, the rest behind its last one nothing.
func (g *grower) list(of ...grown) grown {
	g.t.Helper()
	v := g.values[slices.IndexFunc(g.values, func(v grown) bool { return v.text == "[]" })]
	for _, part := range slices.Backward(of) {
		var ok bool
		if v, ok = g.add(impl.Word{K: impl.WdCons}, part, v); !ok {
			g.t.Fatal("the test's own: no room")
		}
	}
	return v
}

func (g *grower) pair(first, second grown) grown {
	g.t.Helper()
	v, ok := g.add(impl.Word{K: impl.WdPair}, first, second)
	if !ok {
		g.t.Fatal("the test's own: no room")
	}
	return v
}

// heapCase is a heap by chance, of any shape, with roots.
type heapCase struct {
	h     impl.Heap
	roots []impl.Word
}

// anyHeads are heads and room for their fields, and the places of the heads.
func anyHeads(r *rand.Rand, most int) ([]impl.Word, []int) {
	var cells []impl.Word
	var heads []int
	for range 1 + r.Intn(most) {
		head, fields := impl.Word{K: impl.WdPair + r.Intn(3)}, 2
		if head.K == impl.WdRec {
			fields = r.Intn(5)
			head.N = 100*r.Intn(150) + fields
		}
		heads = append(heads, len(cells))
		cells = append(append(cells, head), make([]impl.Word, fields)...)
	}
	return cells, heads
}

// anyField names a head most often: one close by, or any.
func anyField(r *rand.Rand, heads []int) impl.Word {
	switch r.Intn(6) {
	case 0:
		return wdNum(r.Intn(20) - 10)
	case 1:
		return toldWords("t u nil nil 1000000 -1000000")[r.Intn(6)]
	}
	return wdPtr(heads[r.Intn(len(heads))])
}

func anyHeaps(n, most int) []heapCase {
	r := rand.New(rand.NewSource(int64(12*n + most)))
	var all []heapCase
	for range n {
		cells, heads := anyHeads(r, most)
		isHead := map[int]bool{}
		for _, at := range heads {
			isHead[at] = true
		}
		for at := range cells {
			if !isHead[at] {
				cells[at] = anyField(r, heads)
			}
		}
		c := heapCase{h: impl.Heap{Size: len(cells) + r.Intn(3), Cells: cells}}
		for range r.Intn(5) {
			c.roots = append(c.roots, anyField(r, heads))
		}
		all = append(all, c)
	}
	return all
}

// roomyWords are these, with spare room behind them that looks like more.
func roomyWords(words []impl.Word) []impl.Word {
	roomy := make([]impl.Word, len(words), len(words)+4)
	copy(roomy, words)
	copy(roomy[len(words):cap(roomy)], []impl.Word{{K: impl.WdPair}, wdNum(3), wdPtr(0), {K: 9, N: 9}})
	return roomy
}

func roomyHeap(h impl.Heap) impl.Heap { return impl.Heap{Size: h.Size, Cells: roomyWords(h.Cells)} }

func fullWords(words []impl.Word) []impl.Word { return slices.Clone(words[:cap(words)]) }

func wordPlaces(words []impl.Word) []any {
	var places []any
	room := words[:cap(words)]
	for at := range room {
		places = append(places, &room[at])
	}
	return places
}
