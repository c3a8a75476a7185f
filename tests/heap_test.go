package tests

import (
	"fmt"
	"math"
	"math/rand"
	"slices"
	"strings"
	"testing"

	"loop.example/g00187/impl"
)

var heapHeads = []impl.Word{{K: impl.WdPair}, {K: impl.WdCons}, {K: impl.WdRec, N: 302}}

func TestHeapNew(t *testing.T) {
	for _, size := range []int{0, 1, 2, 999, 1000, 4999, 5000} {
		h := impl.HeapNew(size)
		if !equalHeaps(h, impl.Heap{Size: size}) {
			t.Error(size, heapText(h))
		}
		heapIs(t, "new", h, "")
		asPlainHeap(t, h, nil)
		asPlainHeap(t, h, toldWords("1 nil t"))
	}
	for _, size := range []int{5001, 5002, 10000, -1, -2, -5000, math.MaxInt, math.MinInt} {
		if h := impl.HeapNew(size); !equalHeaps(h, impl.Heap{}) {
			t.Error(size, heapText(h))
		}
	}
}

// Each kind of head with each kind of field, at each place of the object.
func TestAllocOfEachKind(t *testing.T) {
	base := toldHeap("60: pair 1 2; cons @0 nil; rec 3 @3 u; rec 149")
	for _, head := range heapHeads {
		for _, first := range rightWords(base.Cells) {
			for _, second := range rightWords(base.Cells) {
				h, ptr := allocated(t, base, head, []impl.Word{first, second})
				got, own := asPlainHeap(t, h, []impl.Word{ptr})
				if got.Cells[0] != head || own[0] != wdPtr(0) || ptr != wdPtr(10) {
					t.Error(heapText(got), own, ptr)
				}
			}
		}
	}
	one, _ := allocated(t, impl.HeapNew(10), impl.Word{K: impl.WdPair}, toldWords("1 t"))
	two, ptr := allocated(t, one, impl.Word{K: impl.WdCons}, toldWords("@0 nil"))
	three, last := allocated(t, two, impl.Word{K: impl.WdRec, N: 301}, []impl.Word{ptr})
	if !equalHeaps(three, toldHeap("10: pair 1 t; cons @0 nil; rec 3 @3")) || last != wdPtr(6) || impl.Show(three, ptr) != "[(1,t)]" {
		t.Error(heapText(three), last)
	}
}

// A record's number: its Lam from the least to the greatest, its fields from none to the most.
func TestAllocOfRecords(t *testing.T) {
	for _, lam := range []int{0, 1, 2, 99, 100, 148, 149} {
		for _, count := range []int{0, 1, 2, 3, 50, 98, 99} {
			head := impl.Word{K: impl.WdRec, N: 100*lam + count}
			base := toldHeap("103: pair 4 nil")
			fields := slices.Repeat(toldWords("@0"), count)
			h, ptr := allocated(t, base, head, fields)
			if impl.Show(h, ptr) != "fn" || len(h.Cells) != 4+count {
				t.Error(lam, count, heapText(h))
			}
			asPlainHeap(t, h, []impl.Word{ptr})
			if got := impl.Reached(h, []impl.Word{ptr}); got != 1+count && count == 0 || count > 0 && got != 4+count {
				t.Error(lam, count, got)
			}
			notAllocated(t, "one more", base, head, append(slices.Clone(fields), wdNum(1)))
			notAllocated(t, "two more", base, head, append(slices.Clone(fields), toldWords("1 2")...))
			if count > 0 {
				notAllocated(t, "one less", base, head, fields[1:])
				notAllocated(t, "none", base, head, nil)
			}
			notAllocated(t, "100 fields", base, head, slices.Repeat(toldWords("@0"), 100))
		}
	}
	for _, n := range []int{15000, 15001, 15099, 20000, -1, -2, -99, -100, -101, -198, math.MaxInt, math.MinInt} {
		for count := range 3 {
			notAllocated(t, "no Lam", impl.HeapNew(200), impl.Word{K: impl.WdRec, N: n}, slices.Repeat(toldWords("1"), count))
		}
		notAllocated(t, "no Lam", impl.HeapNew(200), impl.Word{K: impl.WdRec, N: n}, slices.Repeat(toldWords("1"), max(n%100, 0)))
		notAllocated(t, "no Lam", impl.HeapNew(200), impl.Word{K: impl.WdRec, N: n}, slices.Repeat(toldWords("1"), max(-(n%100), 0)))
	}
}

func TestAllocRoom(t *testing.T) {
	for _, size := range []int{0, 1, 2, 3, 4, 5, 7, 100, 4999, 5000} {
		for _, c := range []struct {
			head  impl.Word
			count int
		}{{impl.Word{K: impl.WdPair}, 2}, {impl.Word{K: impl.WdCons}, 2}, {impl.Word{K: impl.WdRec}, 0}, {impl.Word{K: impl.WdRec, N: 1}, 1}, {impl.Word{K: impl.WdRec, N: 14999}, 99}} {
			fields := slices.Repeat(toldWords("nil"), c.count)
			for free := range 104 {
				if free > size {
					break
				}
				h := impl.Heap{Size: size, Cells: slices.Repeat([]impl.Word{{K: impl.WdRec, N: 700}}, size-free)}
				if free >= 1+c.count {
					allocated(t, h, c.head, fields)
				} else {
					notAllocated(t, "no room", h, c.head, fields)
				}
			}
		}
	}
	// up to the last word, by Alloc alone
	h, _ := allocated(t, impl.HeapNew(5000), impl.Word{K: impl.WdPair}, toldWords("0 nil"))
	for at := 3; at < 4998; at += 3 {
		var ok bool
		var ptr impl.Word
		if h, ptr, ok = impl.Alloc(h, impl.Word{K: impl.WdPair}, toldWords("7 @0")); !ok || ptr != wdPtr(at) {
			t.Fatal(at, ptr, ok)
		}
	}
	notAllocated(t, "3 words, 2 are free", h, impl.Word{K: impl.WdPair}, toldWords("1 2"))
	h, _ = allocated(t, h, impl.Word{K: impl.WdRec, N: 14901}, toldWords("@4995"))
	notAllocated(t, "full", h, impl.Word{K: impl.WdRec}, nil)
	if len(h.Cells) != 5000 {
		t.Error(len(h.Cells))
	}
	got, _ := asPlainHeap(t, h, toldWords("@4998 @3"))
	if len(got.Cells) != 2+3+3+3 {
		t.Error(heapText(got))
	}
}

// What is no head, and too many or too few fields; what else is right.
func TestAllocOfWrongHeads(t *testing.T) {
	h := toldHeap("300: pair 1 2; cons @0 nil")
	for _, head := range []impl.Word{{}, {N: 2}, {K: impl.WdNum}, {K: impl.WdNum, N: 2}, {K: impl.WdBool, N: 1}, {K: impl.WdNil}, {K: impl.WdPtr}, {K: impl.WdPtr, N: 3}, {K: 8}, {K: 8, N: 2}, {K: -1}, {K: -5}, {K: 9, N: 302}, {K: math.MaxInt}, {K: math.MinInt}, {K: impl.WdPair, N: 1}, {K: impl.WdPair, N: 2}, {K: impl.WdPair, N: -1}, {K: impl.WdPair, N: 302}, {K: impl.WdCons, N: 1}, {K: impl.WdCons, N: -2}, {K: impl.WdCons, N: math.MaxInt}} {
		for count := range 5 {
			notAllocated(t, "no head", h, head, slices.Repeat(toldWords("1"), count))
		}
	}
	for _, head := range heapHeads {
		for count := range 105 {
			fields := slices.Repeat(toldWords("@3"), count)
			if count == 2 {
				allocated(t, h, head, fields)
			} else {
				notAllocated(t, "fields", h, head, fields)
			}
		}
	}
}

// Each wrong word as a field, at each place; its own place is that of no head as yet.
func TestAllocOfWrongFields(t *testing.T) {
	h := toldHeap("40: pair 1 2; cons @0 nil; rec 3 @3 t")
	heads, _ := plainHeads(h.Cells)
	for fault, words := range wrongWords(h.Cells) {
		for _, w := range words {
			if own := wordFault(heads, len(h.Cells), w); own != fault {
				t.Errorf("the test's own: %v: %s, not %s", w, own, fault)
			}
			for _, head := range []impl.Word{{K: impl.WdPair}, {K: impl.WdCons}, {K: impl.WdRec, N: 2}, {K: impl.WdRec, N: 7}, {K: impl.WdRec, N: 1}} {
				count := 2
				if head.K == impl.WdRec {
					count = head.N
				}
				for at := range count {
					fields := slices.Repeat(toldWords("@6"), count)
					allocated(t, h, head, fields)
					fields[at] = w
					notAllocated(t, fault, h, head, fields)
				}
			}
		}
	}
	notAllocated(t, "its own place", impl.HeapNew(9), impl.Word{K: impl.WdPair}, toldWords("1 @0"))
	notAllocated(t, "its own place", h, impl.Word{K: impl.WdCons}, toldWords("1 @9"))
	notAllocated(t, "the next one's place", h, impl.Word{K: impl.WdCons}, toldWords("1 @12"))
}

// Heaps that are right: object behind object, whatever names what.
func TestHeapsThatAreRight(t *testing.T) {
	for _, text := range []string{
		"0:", "1:", "5000:", "3: pair 1 2", "3: cons 1 2", "1: rec 0", "1: rec 149", "2: rec 0 1", "2: rec 149 nil", "100: pair 1 2",
		"3: pair @0 @0", "3: cons @0 @0", "2: rec 5 @0", "6: pair @3 @3; pair @0 @0", "6: cons @3 nil; pair @0 t", "4: rec 1; pair @0 @1", "7: pair @6 @6; cons 1 @0; rec 7",
		"3: pair 1000000 -1000000", "3: pair t u", "3: pair nil nil", "3: cons nil 5", "5: rec 1; rec 2; rec 3; rec 149; rec 0",
	} {
		h := toldHeap(text)
		heapIs(t, text, h, "")
		for _, w := range rightWords(h.Cells) {
			asPlainHeap(t, h, []impl.Word{w})
			asPlainHeap(t, h, []impl.Word{w, wdNum(1), w})
		}
		asPlainHeap(t, h, nil)
	}
	for _, lam := range []int{0, 3, 149} {
		fields := slices.Repeat(toldWords("@0"), 99)
		h := impl.Heap{Size: 100, Cells: append([]impl.Word{{K: impl.WdRec, N: 100*lam + 99}}, fields...)}
		asPlainHeap(t, h, toldWords("@0"))
		h.Size = 99
		notHeap(t, "99 of 100 words", h, "long")
	}
}

// wrongHeap is a Heap that breaks just this.
type wrongHeap struct {
	why    string
	h      impl.Heap
	faults string
}

func wrongHeaps() []wrongHeap {
	var all []wrongHeap
	add := func(why string, size int, faults string, cells ...impl.Word) {
		all = append(all, wrongHeap{why, impl.Heap{Size: size, Cells: cells}, faults})
	}
	pair, cons, one := impl.Word{K: impl.WdPair}, impl.Word{K: impl.WdCons}, wdNum(1)
	add("5001", 5001, "size")
	add("5001", 5001, "size", pair, one, one)
	add("the greatest", math.MaxInt, "size", pair, one, one)
	add("-1", -1, "long, size")
	add("the least", math.MinInt, "long, size", pair, one, one)
	add("one word too many", 2, "long", pair, one, one)
	add("no room at all", 0, "long", pair, one, one)
	add("one word too many", 3, "long", pair, one, one, impl.Word{K: impl.WdRec})
	all = append(all, wrongHeap{"5001 words", impl.Heap{Size: 5000, Cells: slices.Repeat([]impl.Word{{K: impl.WdRec}}, 5001)}, "long"})
	all = append(all, wrongHeap{"5001 words of 5001", impl.Heap{Size: 5001, Cells: slices.Repeat([]impl.Word{{K: impl.WdRec}}, 5001)}, "size"})
	for _, head := range []impl.Word{pair, cons, {K: impl.WdRec, N: 302}} {
		add("no fields", 9, "short", head)
		add("one field", 9, "short", head, one)
		add("no fields, behind another", 9, "short", pair, one, one, head)
		add("one field, behind another", 9, "short", pair, one, one, head, one)
		add("one field too many", 9, "no head", head, one, one, one)
		add("a head for a field", 9, "head", head, pair, one)
		add("a head for a field", 9, "head", head, one, cons)
		add("a head for a field", 9, "head", head, one, impl.Word{K: impl.WdRec})
	}
	add("1 field of 2, then another", 9, "no head", pair, one, cons, one, one)
	add("1 field of 2, then a record", 9, "head", pair, one, impl.Word{K: impl.WdRec})
	add("a record without its field", 9, "short", impl.Word{K: impl.WdRec, N: 1})
	add("a record with one too many", 9, "no head", impl.Word{K: impl.WdRec}, one)
	all = append(all, wrongHeap{"98 fields of 99", impl.Heap{Size: 100, Cells: append([]impl.Word{{K: impl.WdRec, N: 99}}, slices.Repeat(toldWords("1"), 98)...)}, "short"})
	for _, w := range []impl.Word{one, wdPtr(0), {K: impl.WdNil}, {K: impl.WdBool}, {}, {K: 8}, {K: -1}, {K: math.MaxInt}} {
		add("no head", 9, "no head", w)
		add("no head ahead", 9, "no head", w, pair, one, one)
		add("no head behind", 9, "no head", pair, one, one, w)
		add("no head between", 9, "no head", pair, one, one, w, cons, one, one)
	}
	for _, head := range []impl.Word{{K: impl.WdPair, N: 1}, {K: impl.WdPair, N: -1}, {K: impl.WdCons, N: 2}, {K: impl.WdCons, N: 302}, {K: impl.WdRec, N: 15002}, {K: impl.WdRec, N: -98}, {K: impl.WdRec, N: -2}, {K: impl.WdRec, N: math.MinInt}, {K: impl.WdRec, N: math.MaxInt}} {
		add("a head's number", 9, "head's number", head, one, one)
		add("a head's number, behind another", 9, "head's number", pair, one, one, head, one, one)
	}
	add("no Lam, no fields", 9, "head's number", impl.Word{K: impl.WdRec, N: 15000})
	add("no Lam, no fields", 9, "head's number", impl.Word{K: impl.WdRec, N: -1})
	add("no Lam, no fields", 9, "head's number", impl.Word{K: impl.WdRec, N: -100})
	return all
}

func TestHeapsThatAreNotRight(t *testing.T) {
	met := map[string]bool{}
	for _, c := range wrongHeaps() {
		met[c.faults] = true
		notHeap(t, c.why, c.h, c.faults)
	}
	whole := toldHeap("20: pair 1 2; cons @0 nil; rec 3 @3 t; rec 4")
	heads, _ := plainHeads(whole.Cells)
	for fault, words := range wrongWords(whole.Cells) {
		met[fault] = true
		for _, w := range words {
			for at := range whole.Cells {
				if _, ok := heads[at]; ok {
					continue
				}
				h := impl.Heap{Size: whole.Size, Cells: slices.Clone(whole.Cells)}
				heapIs(t, "whole", h, "")
				h.Cells[at] = w
				notHeap(t, fmt.Sprint(w, " at ", at), h, fault)
			}
		}
	}
	for _, fault := range []string{"size", "long", "short", "no head", "head's number", "number", "truth", "nil", "place", "to a field", "head", "kind"} {
		if !met[fault] {
			t.Error("never alone:", fault)
		}
	}
}

// Each wrong word as a root, alone and among others, and as what is shown; the heap is right, and Alloc takes it.
func TestRootsThatAreNotRight(t *testing.T) {
	for _, text := range []string{"20: pair 1 2; cons @0 nil; rec 3 @3 t; rec 4", "10: pair @0 @0", "7:", "0:"} {
		h := toldHeap(text)
		heapIs(t, text, h, "")
		heads, _ := plainHeads(h.Cells)
		for fault, words := range wrongWords(h.Cells) {
			for _, w := range words {
				if own := wordFault(heads, len(h.Cells), w); own != fault {
					t.Errorf("the test's own: %v: %s, not %s", w, own, fault)
				}
				if got := impl.Show(h, w); got != "" {
					t.Errorf("%s: %v shows %.100s", text, w, got)
				}
				notCollected(t, fault, h, []impl.Word{w})
				others := rightWords(h.Cells)
				for at := range len(others) + 1 {
					notCollected(t, fault, h, slices.Insert(slices.Clone(others), at, w))
				}
				asPlainHeap(t, h, others)
			}
		}
	}
}

// Words of any kind and number, at any place.
func TestHeapsByChanceChanged(t *testing.T) {
	t.Parallel()
	r := rand.New(rand.NewSource(1200))
	met := map[string]int{}
	numbers := []int{0, 1, 2, 3, -1, 99, 100, 101, 302, 14999, 15000, 1000000, 1000001, -1000000, -1000001, math.MaxInt, math.MinInt}
	for _, c := range anyHeaps(4000, 8) {
		h := impl.Heap{Size: c.h.Size, Cells: slices.Clone(c.h.Cells)}
		at := r.Intn(len(h.Cells))
		switch r.Intn(8) {
		case 0:
			h.Cells = slices.Delete(h.Cells, at, at+1)
		case 1:
			h.Cells = slices.Insert(h.Cells, at, h.Cells[r.Intn(len(h.Cells))])
		case 2:
			h.Size = []int{-1, 0, len(h.Cells) - 1, len(h.Cells), 5000, 5001}[r.Intn(6)]
		case 3:
			h.Cells[at].N = r.Intn(len(h.Cells)+2) - 1
		case 4:
			h.Cells[at].K = r.Intn(10) - 1
		default:
			h.Cells[at] = impl.Word{K: r.Intn(9), N: numbers[r.Intn(len(numbers))]}
		}
		faults := strings.Join(heapFaults(h), ", ")
		met[faults]++
		if faults == "" {
			asPlainHeap(t, h, nil)
		} else {
			notHeap(t, "changed", h, faults)
			notCollected(t, "changed", h, c.roots)
		}
	}
	for _, faults := range []string{"", "size", "long", "short", "no head", "head's number", "number", "truth", "nil", "place", "to a field", "head", "kind"} {
		if met[faults] < 10 {
			t.Error("too few", faults, met)
		}
	}
}

// collectCase is a right heap, its roots, and both behind Collect.
type collectCase struct{ heap, roots, want, wantRoots string }

func collectedAll(t *testing.T, cases []collectCase) {
	t.Helper()
	for _, c := range cases {
		h, want, roots, wantRoots := toldHeap(c.heap), toldHeap(c.want), toldWords(c.roots), toldWords(c.wantRoots)
		collectedTo(t, h, roots, want, wantRoots)
		if got := impl.Reached(h, roots); got != len(want.Cells) {
			t.Errorf("%s with %s: %d are reached", c.heap, c.roots, got)
		}
		if got, own := asPlainHeap(t, h, roots); !equalHeaps(got, want) || !slices.Equal(own, wantRoots) {
			t.Errorf("%s with %s: %s, %s", c.heap, c.roots, heapText(got), wordsText(own))
		}
	}
}

func TestCollect(t *testing.T) {
	collectedAll(t, []collectCase{
		// no roots, and such as are no WdPtr
		{"0:", "", "0:", ""}, {"9:", "1 t u nil", "9:", "1 t u nil"}, {"9: pair 1 2", "", "9:", ""}, {"3: pair 1 2", "7", "3:", "7"}, {"3: pair @0 @0", "0 nil u", "3:", "0 nil u"},
		// all stays, or a part
		{"3: pair 1 2", "@0", "3: pair 1 2", "@0"}, {"20: pair 1 2; pair 3 4", "@0", "20: pair 1 2", "@0"}, {"20: pair 1 2; pair 3 4", "@3", "20: pair 3 4", "@0"}, {"20: pair 1 2; cons 3 nil; rec 5 t", "@3", "20: cons 3 nil", "@0"}, {"20: pair 1 2; cons 3 nil; rec 5 t", "@6", "20: rec 5 t", "@0"}, {"20: rec 5; pair 1 2; rec 6", "@1", "20: pair 1 2", "@0"},
		// what fields name comes with it
		{"20: pair 1 2; cons @0 nil", "@3", "20: cons @3 nil; pair 1 2", "@0"}, {"20: pair 1 2; rec 3 @0 t", "@3", "20: rec 3 @3 t; pair 1 2", "@0"}, {"20: rec 149; pair @0 @0", "@1", "20: pair @3 @3; rec 149", "@0"}, {"20: pair 1 2; pair 5 @0; pair @3 6; pair 7 7", "@6", "20: pair @3 6; pair 5 @6; pair 1 2", "@0"},
		{"20: pair 9 9; cons 1 nil; cons 2 @3; pair 8 8; cons 3 @6", "@12", "20: cons 3 @3; cons 2 @6; cons 1 nil", "@0"},
		// a record's fields, more than two
		{"30: rec 1; rec 2; rec 3; rec 9 @2 @0 5 @1 nil", "@3", "30: rec 9 @6 @7 5 @8 nil; rec 3; rec 1; rec 2", "@0"},
		// roots among others
		{"20: pair 1 2; pair 3 4", "5 @3 nil @0 t", "20: pair 3 4; pair 1 2", "5 @0 nil @3 t"},
		// a number between two roots, one of which the other names
		{"20: pair 1 2; cons @0 nil; rec 3 @3; cons -5 @3", "@8 9 @3", "20: cons -5 @3; cons @6 nil; pair 1 2", "@0 9 @3"},
	})
}

// First those of the roots, one after the other; then those of the objects' fields, from the first object on.
func TestCollectOrder(t *testing.T) {
	collectedAll(t, []collectCase{
		// the roots' own order, not that of the places
		{"12: rec 1; rec 2; rec 3; rec 4", "@3 @1 @2 @0", "12: rec 4; rec 2; rec 3; rec 1", "@0 @1 @2 @3"}, {"12: rec 1; rec 2; rec 3; rec 4", "@0 @3", "12: rec 1; rec 4", "@0 @1"},
		// a root comes ahead of a field of the root ahead of it
		{"12: rec 1; rec 2; pair @0 @0", "@2 @1", "12: pair @4 @4; rec 2; rec 1", "@0 @3"}, {"12: rec 1; pair @0 7; pair @0 8", "@1 @4", "12: pair @6 7; pair @6 8; rec 1", "@0 @3"},
		// the fields of one object, the first one first
		{"12: rec 1; rec 2; pair @1 @0", "@2", "12: pair @3 @4; rec 2; rec 1", "@0"}, {"12: rec 1; rec 2; pair @0 @1", "@2", "12: pair @3 @4; rec 1; rec 2", "@0"},
		// all of one level ahead of the next: by breadth, not by depth
		{"40: rec 1; rec 2; rec 3; rec 4; pair @0 @1; pair @2 @3; pair @4 @7", "@10", "40: pair @3 @6; pair @9 @10; pair @11 @12; rec 1; rec 2; rec 3; rec 4", "@0"},
		{"40: rec 1; rec 2; cons @0 nil; pair @2 @1", "@5", "40: pair @3 @6; cons @7 nil; rec 2; rec 1", "@0"},
		// of two roots: those of the first one's fields, then of the second one's
		{"40: rec 1; rec 2; rec 3; rec 4; pair @3 @1; pair @2 @0", "@7 @4", "40: pair @6 @7; pair @8 @9; rec 3; rec 1; rec 4; rec 2", "@0 @3"},
		// what a later root names is met as a root, also where a field of the first one names it
		{"40: rec 1; rec 2; pair @0 @1", "@2 @1", "40: pair @4 @3; rec 2; rec 1", "@0 @3"},
		// a list: its parts and its rests, one after the other
		{"40: pair 1 1; pair 2 2; pair 3 3; cons @6 nil; cons @3 @9; cons @0 @12", "@15", "40: cons @3 @6; pair 1 1; cons @9 @12; pair 2 2; cons @15 nil; pair 3 3", "@0"},
	})
}

// What is named more than once is copied once.
func TestCollectShared(t *testing.T) {
	collectedAll(t, []collectCase{
		// by two fields of one object, of two objects
		{"12: pair 1 2; pair @0 @0", "@3", "12: pair @3 @3; pair 1 2", "@0"}, {"12: rec 7; rec 3 @0 @0 @0", "@1", "12: rec 3 @4 @4 @4; rec 7", "@0"}, {"20: rec 7; pair @0 1; pair @0 2; pair @1 @4", "@7", "20: pair @3 @6; pair @9 1; pair @9 2; rec 7", "@0"},
		// by two roots, by a root and a field
		{"12: pair 1 2", "@0 @0", "12: pair 1 2", "@0 @0"}, {"12: pair 1 2", "@0 5 @0 @0", "12: pair 1 2", "@0 5 @0 @0"}, {"12: pair 1 2; cons @0 nil", "@3 @0", "12: cons @3 nil; pair 1 2", "@0 @3"}, {"12: pair 1 2; cons @0 nil", "@0 @3", "12: pair 1 2; cons @0 nil", "@0 @3"}, {"12: pair 1 2; cons @0 nil", "@3 @0 @3", "12: cons @3 nil; pair 1 2", "@0 @3 @0"},
		// a rest that two lists share
		{"20: cons 1 nil; cons 2 @0; cons 3 @0", "@6 @3", "20: cons 3 @6; cons 2 @6; cons 1 nil", "@0 @3"},
		// two that are alike stay two
		{"20: pair 1 2; pair 1 2; pair @0 @3", "@6", "20: pair @3 @6; pair 1 2; pair 1 2", "@0"}, {"20: pair 1 2; pair 1 2", "@3 @0", "20: pair 1 2; pair 1 2", "@0 @3"},
	})
	// 2^30 ways to one object
	h := toldHeap("100: pair 1 1")
	for at := range 30 {
		h.Cells = append(h.Cells, impl.Word{K: impl.WdPair}, wdPtr(3*at), wdPtr(3*at))
	}
	got, _ := asPlainHeap(t, h, toldWords("@90"))
	if len(got.Cells) != 93 || !slices.Equal(got.Cells[90:], toldHeap("9: pair 1 1").Cells) {
		t.Error(heapText(got))
	}
}

func TestCollectRings(t *testing.T) {
	collectedAll(t, []collectCase{
		// an object whose field names itself
		{"9: pair @0 1", "@0", "9: pair @0 1", "@0"}, {"9: pair 1 @0", "@0", "9: pair 1 @0", "@0"}, {"9: pair @0 @0", "@0 @0", "9: pair @0 @0", "@0 @0"}, {"9: pair 1 2; pair 5 @3", "@3", "9: pair 5 @0", "@0"}, {"9: rec 4 @0", "@0", "9: rec 4 @0", "@0"}, {"9: rec 3; rec 4 t @1", "@1", "9: rec 4 t @0", "@0"},
		// a list whose rest is the list itself, whose part is
		{"9: cons 1 @0", "@0", "9: cons 1 @0", "@0"}, {"9: cons @0 nil", "@0", "9: cons @0 nil", "@0"}, {"9: cons @0 @0", "@0", "9: cons @0 @0", "@0"}, {"9: rec 1; cons 6 @1; rec 2", "@1 nil", "9: cons 6 @0", "@0 nil"},
		// two that name each other
		{"9: pair 1 @3; pair 2 @0", "@0", "9: pair 1 @3; pair 2 @0", "@0"}, {"9: pair 1 @3; pair 2 @0", "@3", "9: pair 2 @3; pair 1 @0", "@0"}, {"9: pair 1 @3; pair 2 @0", "@3 @0", "9: pair 2 @3; pair 1 @0", "@0 @3"}, {"9: rec 1 @2; rec 2 @0", "@2", "9: rec 2 @2; rec 1 @0", "@0"}, {"9: cons 1 @3; cons 2 @0", "@3", "9: cons 2 @3; cons 1 @0", "@0"},
		// a ring of lists and pairs and records
		{"20: pair @3 1; cons @6 nil; rec 5 @0", "@3", "20: cons @3 nil; rec 5 @5; pair @0 1", "@0"}, {"20: cons @3 @6; pair @0 @6; cons 5 @0", "@6", "20: cons 5 @3; cons @6 @0; pair @3 @0", "@0"}, {"20: cons 1 @3; cons 2 @6; cons 3 @0", "@6", "20: cons 3 @3; cons 1 @6; cons 2 @0", "@0"},
		// a ring that no root reaches
		{"20: pair @0 @0; pair 1 2", "@3", "20: pair 1 2", "@0"}, {"20: pair 1 @3; pair 2 @0; rec 9", "@6", "20: rec 9", "@0"}, {"20: pair 1 @3; pair 2 @0", "", "20:", ""}, {"20: cons 1 @0", "4", "20:", "4"}, {"20: pair @3 @6; pair @0 @6; rec 9", "@6", "20: rec 9", "@0"},
		// one that is reached from without, beside one that is not
		{"20: pair 1 @3; pair 2 @0; cons @3 nil; pair @9 @9", "@6", "20: cons @3 nil; pair 2 @6; pair 1 @3", "@0"},
		// a ring that names what is no part of it
		{"20: rec 9; pair @0 @1", "@1", "20: pair @3 @0; rec 9", "@0"},
	})
}

// A ring of each length, from each root within, of each kind of object; and what it shows.
func TestCollectRingsOfEachLength(t *testing.T) {
	t.Parallel()
	for _, length := range []int{1, 2, 3, 4, 5, 10, 50} {
		for _, head := range []impl.Word{{K: impl.WdPair}, {K: impl.WdCons}, {K: impl.WdRec, N: 2}} {
			for field := range 2 {
				h := impl.Heap{Size: 200}
				for at := range length {
					fields := []impl.Word{wdNum(at), wdNum(-at)}
					fields[field] = wdPtr(3 * ((at + 1) % length))
					h.Cells = append(append(h.Cells, head), fields...)
				}
				for root := range length {
					got, own := asPlainHeap(t, h, []impl.Word{wdPtr(3 * root)})
					if len(got.Cells) != 3*length || own[0] != wdPtr(0) || field == 1 && got.Cells[1] != wdNum(root) {
						t.Error(heapText(got), own)
					}
				}
				got, _ := asPlainHeap(t, h, toldWords("5"))
				if len(got.Cells) != 0 {
					t.Error(heapText(got))
				}
			}
		}
	}
}

func TestShowEachKind(t *testing.T) {
	h := toldHeap("100: pair 1 2; cons @0 nil; rec 3 @3; cons -5 @3; pair @8 @6; cons nil nil; cons @14 @14; pair nil @0; cons t @17; rec 0; rec 149 5 5 5")
	for word, want := range map[string]string{
		"0": "0", "7": "7", "-7": "-7", "1000000": "1000000", "-1000000": "-1000000", "t": "t", "u": "u", "nil": "[]",
		"@0": "(1,2)", "@3": "[(1,2)]", "@6": "fn", "@8": "[-5,(1,2)]", "@11": "([-5,(1,2)],fn)", "@14": "[[]]", "@17": "[[[]],[]]", "@20": "([],(1,2))", "@23": "[t,[[]],[]]", "@26": "fn", "@27": "fn",
		"@1": "", "@2": "", "@30": "", "@31": "", "@100": "", "@-1": "", "1000001": "", "-1000001": "",
	} {
		if got := impl.Show(h, toldWords(word)[0]); got != want {
			t.Errorf("%s: %s, not %s", word, got, want)
		}
	}
	heapIs(t, "all", h, "")
	if got := impl.Show(impl.Heap{}, wdNum(3)); got != "3" {
		t.Error("of the zero heap", got)
	}
}

// Pairs within lists and lists within pairs; lists whose rest is no list.
func TestShowWithin(t *testing.T) {
	for _, c := range [][2]string{
		{"20: pair 1 2; pair @0 3; pair 4 @3", "(4,((1,2),3))"}, {"20: cons 1 nil; cons @0 nil; cons @3 @0", "[[[1]],1]"}, {"20: cons 1 nil; pair @0 @0; cons @3 @0; pair @6 nil", "([([1],[1]),1],[])"}, {"30: cons 3 nil; cons 2 @0; cons 1 @3; pair @6 @3; cons @9 @6", "[([1,2,3],[2,3]),1,2,3]"},
		{"20: rec 1; rec 2; cons @1 nil; cons @0 @2; pair @5 @0", "([fn,fn],fn)"}, {"20: pair t u; cons @0 nil; cons @0 @3", "[(t,u),(t,u)]"},
		// the rest is a number, a truth, a pair, a record
		{"20: cons 1 2", "[1]"}, {"20: cons 1 2; cons 3 @0", "[3,1]"}, {"20: cons 1 t", "[1]"}, {"20: pair 1 2; cons 3 @0", "[3]"}, {"20: pair 1 2; cons 3 @0; cons 4 @3", "[4,3]"}, {"20: rec 1; cons 3 @0", "[3]"}, {"20: cons 1 1; pair @0 @0", "([1],[1])"}, {"20: cons 1 1; cons @0 @0", "[[1],1]"}, {"20: pair 1 2; cons @0 @0", "[(1,2)]"},
	} {
		h := toldHeap(c[0])
		heads, _ := plainHeads(h.Cells)
		last := 0
		for at := range heads {
			last = max(last, at)
		}
		if got := impl.Show(h, wdPtr(last)); got != c[1] {
			t.Errorf("%s: %s, not %s", c[0], got, c[1])
		}
		asPlainHeap(t, h, []impl.Word{wdPtr(last)})
	}
}

// Rings have no end, but their text does: 6000 words.
func TestShowRings(t *testing.T) {
	t.Parallel()
	r := strings.Repeat
	for _, c := range []struct{ heap, root, want string }{
		// one word for a pair, one for its number
		{"9: pair 1 @0", "@0", r("(1,", 3000) + "." + r(")", 3000)},
		{"9: pair @0 1", "@0", r("(", 6000) + "." + r(",.)", 6000)},
		{"9: pair @0 @0", "@0", r("(", 6000) + "." + r(",.)", 6000)},
		// one for the list and one for its part, then two for each part
		{"9: cons 1 @0", "@0", "[" + r("1,", 3000) + ".]"},
		{"9: cons @0 nil", "@0", r("[", 6000) + "." + r("]", 6000)},
		{"9: cons @0 5", "@0", r("[", 6000) + "." + r("]", 6000)},
		{"9: cons @0 @0", "@0", r("[", 6000) + "." + r(",.]", 6000)},
		{"9: rec 5 @0", "@0", "fn"}, {"9: rec 5 @0; cons @0 @2", "@2", "[" + r("fn,", 3000) + ".]"},
		// two that name each other
		{"9: pair 1 @3; pair 2 @0", "@0", r("(1,(2,", 1500) + "." + r("))", 1500)}, {"9: pair 1 @3; pair 2 @0", "@3", r("(2,(1,", 1500) + "." + r("))", 1500)},
		{"9: cons 1 @3; cons 2 @0", "@0", "[" + r("1,2,", 1500) + ".]"}, {"9: cons 1 @3; cons 2 @0", "@3", "[" + r("2,1,", 1500) + ".]"}, {"9: cons 1 @3; cons 2 @3", "@0", "[1," + r("2,", 2999) + ".]"},
		// of lists and pairs: a list of one part, which is a pair: 3 words a turn
		{"9: cons @3 nil; pair 7 @0", "@0", r("[(7,", 2000) + "." + r(")]", 2000)}, {"9: cons @3 nil; pair 7 @0", "@3", r("(7,[", 2000) + "." + r("])", 2000)},
		{"9: pair @3 @0; cons 1 nil", "@0", r("([1],", 2000) + "." + r(")", 2000)},
		// 4 words a part: the list, or going on, and the pair's three
		{"9: pair 8 9; cons @0 @3", "@3", "[" + r("(8,9),", 1500) + ".]"},
		{"9: cons 1 @3; pair 2 @0", "@0", "[1]"}, {"9: cons 1 @3; pair 2 @0", "@3", "(2,[1])"},
	} {
		h := toldHeap(c.heap)
		root := toldWords(c.root)
		if got := impl.Show(h, root[0]); got != c.want {
			t.Errorf("%s: %s shows %.100s .. (%d bytes), not %.100s (%d bytes)", c.heap, c.root, got, len(got), c.want, len(c.want))
		}
		asPlainHeap(t, h, root)
	}
}

// 6000 words, met exactly and passed by one: in a pair, in a list's part, behind a list's part.
func TestShowLimit(t *testing.T) {
	t.Parallel()
	g := newGrower(t, 5000)
	seven := grown{word: wdNum(7), text: "7", looks: 1}
	eight := grown{word: wdNum(8), text: "8", looks: 1}
	of := func(looks int) grown {
		v := g.ofLooks(looks)
		if v.looks != looks || strings.Contains(v.text, ".") {
			t.Fatal("the test's own", looks)
		}
		if looks <= 6000 {
			g.shows(v)
		}
		return v
	}
	// clipped is v with a "." for its last part
	clipped := func(v grown) string {
		at := strings.LastIndexByte(v.text, '5')
		return v.text[:at] + "." + v.text[at+1:]
	}
	look := func(why string, v grown, looks int, want string) {
		t.Helper()
		if v.looks != looks {
			t.Error("the test's own", why, v.looks)
		}
		if got := impl.Show(g.h, v.word); got != want {
			t.Errorf("%s: shows %.60s .. %s (%d bytes), not %.60s .. %s (%d bytes)", why, got, got[max(0, len(got)-40):], len(got), want, want[max(0, len(want)-40):], len(want))
		}
		showsAsPlain(t, g.h, v.word)
	}
	look("as many", of(6000), 6000, of(6000).text)
	look("one less", of(5999), 5999, of(5999).text)
	look("one more", of(6001), 6001, clipped(of(6001)))
	// in a pair
	look("pair", g.pair(of(5998), seven), 6000, "("+of(5998).text+",7)")
	look("pair", g.pair(of(5999), seven), 6001, "("+of(5999).text+",.)")
	look("pair", g.pair(of(6000), seven), 6002, "("+clipped(of(6000))+",.)")
	look("pair", g.pair(seven, of(5998)), 6000, "(7,"+of(5998).text+")")
	look("pair", g.pair(seven, of(5999)), 6001, "(7,"+clipped(of(5999))+")")
	look("pair in a pair", g.pair(g.pair(of(5996), seven), eight), 6000, "(("+of(5996).text+",7),8)")
	look("pair in a pair", g.pair(g.pair(of(5997), seven), eight), 6001, "(("+of(5997).text+",7),.)")
	look("pair in a pair", g.pair(g.pair(of(5998), seven), eight), 6002, "(("+of(5998).text+",.),.)")
	look("pair beyond", g.pair(of(5999), g.pair(seven, eight)), 6003, "("+of(5999).text+",.)")
	look("pair within", g.pair(of(5998), g.pair(seven, eight)), 6002, "("+of(5998).text+",(.,.))")
	look("pair within", g.pair(of(5997), g.pair(seven, eight)), 6001, "("+of(5997).text+",(7,.))")
	look("nothing beyond", g.pair(of(5999), g.list()), 6001, "("+of(5999).text+",.)")
	look("nothing", g.pair(of(5998), g.list()), 6000, "("+of(5998).text+",[])")
	// in a list's part
	look("list of one", g.list(of(5999)), 6000, "["+of(5999).text+"]")
	look("list of one", g.list(of(6000)), 6001, "["+clipped(of(6000))+"]")
	look("second part", g.list(of(5997), seven), 6000, "["+of(5997).text+",7]")
	look("second part", g.list(of(5998), seven), 6001, "["+of(5998).text+",.]")
	look("last part", g.list(of(5995), seven, eight), 6000, "["+of(5995).text+",7,8]")
	look("last part", g.list(of(5996), seven, eight), 6001, "["+of(5996).text+",7,.]")
	look("part of a part", g.list(of(5996), g.list(seven)), 6000, "["+of(5996).text+",[7]]")
	look("part of a part", g.list(of(5997), g.list(seven)), 6001, "["+of(5997).text+",[.]]")
	look("list in a pair", g.pair(of(5997), g.list(seven)), 6000, "("+of(5997).text+",[7])")
	look("list in a pair", g.pair(of(5998), g.list(seven)), 6001, "("+of(5998).text+",[.])")
	look("list in a pair", g.pair(of(5999), g.list(seven)), 6002, "("+of(5999).text+",.)")
	// behind a list's part: no word is left for going on
	look("behind the first", g.list(of(5999), seven), 6002, "["+of(5999).text+",.]")
	look("behind the first of many", g.list(of(5999), seven, eight), 6004, "["+of(5999).text+",.]")
	look("behind the second", g.list(of(5997), seven, eight), 6002, "["+of(5997).text+",7,.]")
	look("behind the second of many", g.list(of(5997), seven, eight, eight, eight), 6006, "["+of(5997).text+",7,.]")
	// a part is beyond, and the list goes on, too
	look("both", g.list(of(5998), seven, eight), 6003, "["+of(5998).text+",.,.]")
	look("both, of many", g.list(of(5998), seven, eight, eight, eight), 6007, "["+of(5998).text+",.,.]")
	look("behind the list", g.pair(g.list(of(5997), seven), eight), 6002, "(["+of(5997).text+",.],.)")
	look("behind the list", g.pair(g.list(of(5998)), eight), 6001, "(["+of(5998).text+"],.)")
	// a rest that is no list is not looked at
	for _, rest := range []grown{seven, g.pair(seven, eight), {word: toldWords("t")[0], text: "t", looks: 1}} {
		v, ok := g.add(impl.Word{K: impl.WdCons}, of(5999), rest)
		if !ok {
			t.Fatal("the test's own: no room")
		}
		look("no list behind", v, 6000, "["+of(5999).text+"]")
	}
	// a record takes one, however many fields it has
	fields := slices.Repeat([]grown{of(6000)}, 99)
	rec, _ := g.add(impl.Word{K: impl.WdRec, N: 14999}, fields...)
	look("record", g.pair(of(5998), rec), 6000, "("+of(5998).text+",fn)")
	look("record", g.pair(of(5999), rec), 6001, "("+of(5999).text+",.)")
	got, own := asPlainHeap(t, g.h, rightWords(g.h.Cells)[9:])
	if len(got.Cells) != len(g.h.Cells) || len(own) < 100 {
		t.Error("the test's own", len(own))
	}
}

// What is shared is looked at anew each time.
func TestShowShared(t *testing.T) {
	t.Parallel()
	// 2^12 numbers would be 8191 words
	h := toldHeap("100: pair 1 1")
	text := "(1,1)"
	for level := range 11 {
		h.Cells = append(h.Cells, impl.Word{K: impl.WdPair}, wdPtr(3*level), wdPtr(3*level))
		text = "(" + text + "," + text + ")"
		got := showsAsPlain(t, h, wdPtr(3*level+3))
		if whole := got == text; whole != (level < 10) || whole == strings.Contains(got, ".") {
			t.Error(level, len(got), len(text))
		}
	}
	asPlainHeap(t, h, toldWords("@33 @30 @0"))
	// a list of 60 parts, each the list of 48 numbers: 1 + 60*96 + 59 words, and so on up to the limit
	h = toldHeap("5000:")
	for at := range 48 {
		rest := impl.Word{K: impl.WdNil}
		if at > 0 {
			rest = wdPtr(3 * (at - 1))
		}
		h.Cells = append(h.Cells, impl.Word{K: impl.WdCons}, wdNum(5), rest)
	}
	inner := "[5" + strings.Repeat(",5", 47) + "]"
	for parts := range 66 {
		rest := impl.Word{K: impl.WdNil}
		if parts > 0 {
			rest = wdPtr(len(h.Cells) - 3)
		}
		h.Cells = append(h.Cells, impl.Word{K: impl.WdCons}, wdPtr(3*47), rest)
		want := "[" + inner + strings.Repeat(","+inner, parts) + "]"
		// each part takes 96 words and the one ahead of it: 61 take 5917, and 83 more are left, of which one goes on
		if parts >= 61 {
			want = "[" + inner + strings.Repeat(","+inner, 60) + ",[5" + strings.Repeat(",5", 40) + ",.]"
			if parts > 61 {
				want += ",."
			}
			want += "]"
		}
		if got := showsAsPlain(t, h, wdPtr(len(h.Cells)-3)); got != want {
			t.Errorf("%d parts: .. %s, not .. %s", parts+1, got[max(0, len(got)-120):], want[max(0, len(want)-120):])
		}
	}
}

// Long lists and deep pairs, of as many words as there may be.
func TestHeapsOfTheGreatest(t *testing.T) {
	t.Parallel()
	for _, head := range []impl.Word{{K: impl.WdPair}, {K: impl.WdCons}} {
		for field := range 2 {
			// each names the next one, or the one ahead of it
			for _, back := range []bool{false, true} {
				h := impl.Heap{Size: 5000}
				for at := range 1666 {
					fields := toldWords("5 5")
					next := at + 1
					if back {
						next = at - 1
					}
					if next >= 0 && next < 1666 {
						fields[field] = wdPtr(3 * next)
					}
					h.Cells = append(append(h.Cells, head), fields...)
				}
				root := wdPtr(0)
				if back {
					root = wdPtr(3 * 1665)
				}
				got, own := asPlainHeap(t, h, []impl.Word{root})
				if len(got.Cells) != 4998 || !slices.Equal(own, toldWords("@0")) || strings.Contains(impl.Show(h, root), ".") {
					t.Error(head, field, back, len(got.Cells))
				}
				asPlainHeap(t, h, []impl.Word{wdPtr(3 * 800), wdPtr(3 * 801)})
			}
		}
	}
	// 5000 records without fields, all of them roots, turned round; more roots than words
	h := impl.Heap{Size: 5000, Cells: slices.Repeat([]impl.Word{{K: impl.WdRec, N: 14900}}, 5000)}
	var roots []impl.Word
	for at := range 5000 {
		roots = append(roots, wdPtr(4999-at))
	}
	roots = slices.Concat(roots, roots, toldWords("1 nil"))
	got, own := impl.Collect(h, roots)
	if !equalHeaps(got, h) || len(own) != 10002 || own[0] != wdPtr(0) || own[4999] != wdPtr(4999) || own[5000] != wdPtr(0) || impl.Reached(h, roots) != 5000 {
		t.Error(len(got.Cells), len(own))
	}
	// records with the most fields, each of which names all
	h = impl.Heap{Size: 5000}
	for at := range 50 {
		h.Cells = append(h.Cells, impl.Word{K: impl.WdRec, N: 100*at + 99})
		for field := range 99 {
			h.Cells = append(h.Cells, wdPtr(100*((at+field+1)%50)))
		}
	}
	got, _ = asPlainHeap(t, h, toldWords("@4900"))
	if len(got.Cells) != 5000 || got.Cells[0].N != 4999 || got.Cells[100].N != 99 || got.Cells[200].N != 199 {
		t.Error(got.Cells[0], got.Cells[100])
	}
}

// Heaps built by Alloc alone, whose texts the test makes beside them.
func TestHeapsGrown(t *testing.T) {
	t.Parallel()
	r := rand.New(rand.NewSource(121))
	kinds := map[int]int{}
	fields := map[int]int{}
	full := 0
	for range 250 {
		g := newGrower(t, r.Intn(60))
		for range 30 {
			head, count := impl.Word{K: impl.WdPair + r.Intn(3)}, 2
			if head.K == impl.WdRec {
				count = r.Intn(4)
				head.N = 100*r.Intn(150) + count
			}
			var of []grown
			for range count {
				of = append(of, g.any(r))
				fields[of[len(of)-1].word.K]++
			}
			v, ok := g.add(head, of...)
			if !ok {
				full++
				continue
			}
			kinds[head.K]++
			g.shows(v)
		}
		for _, v := range g.values {
			g.shows(v)
			h, own := asPlainHeap(t, g.h, []impl.Word{v.word})
			if got := impl.Show(h, own[0]); v.looks <= 6000 && got != v.text {
				t.Errorf("%s: collected, %v shows %.200s, not %.200s", heapText(g.h), v.word, got, v.text)
			}
		}
		// several at once, and what is allocated behind a collection
		var roots []impl.Word
		for range r.Intn(6) {
			roots = append(roots, g.values[r.Intn(len(g.values))].word)
		}
		h, own := asPlainHeap(t, g.h, roots)
		if len(own) >= 2 && len(h.Cells)+3 <= h.Size {
			more, ptr := allocated(t, h, impl.Word{K: impl.WdPair}, own[:2])
			asPlainHeap(t, more, append(slices.Clone(own), ptr))
		}
	}
	if len(kinds) != 3 || len(fields) != 4 || kinds[impl.WdRec] < 300 || fields[impl.WdPtr] < 1000 || full < 300 {
		t.Error("too few", kinds, fields, full)
	}
}

// Heaps of any shape, with rings of all sorts.
func TestHeapsByChance(t *testing.T) {
	t.Parallel()
	less, rings, dots, alike := 0, 0, 0, 0
	for at, c := range slices.Concat(anyHeaps(1500, 4), anyHeaps(500, 10), anyHeaps(100, 40), anyHeaps(6, 1000)) {
		if len(c.h.Cells) > 5000 {
			t.Fatal("the test's own")
		}
		got, own := asPlainHeap(t, c.h, c.roots)
		if len(got.Cells) < len(c.h.Cells) {
			less++
		}
		for _, w := range own {
			if strings.Contains(impl.Show(got, w), ".") {
				dots++
			}
		}
		for place, w := range got.Cells {
			if w.K == impl.WdPtr && w.N <= place {
				rings++
			}
		}
		if slices.Equal(c.h.Cells, got.Cells) {
			alike++
		}
		// collected with a part of the roots, and then with less
		if len(own) > 1 && at%3 == 0 {
			part := own[1:]
			again, partOwn := asPlainHeap(t, got, part)
			once, onceOwn := impl.Collect(c.h, c.roots[1:])
			if !equalHeaps(again, once) || !slices.Equal(partOwn, onceOwn) {
				t.Errorf("%s with %s: in two turns %s", heapText(c.h), wordsText(c.roots), heapText(again))
			}
		}
	}
	if less < 500 || rings < 1000 || dots < 500 || alike < 10 {
		t.Error("too few", less, rings, dots, alike)
	}
}

// heapArguments are heaps, right and not, with roots, right and not.
func heapArguments() []heapCase {
	all := anyHeaps(60, 8)
	for at, c := range anyHeaps(60, 6) {
		wrong := wrongWords(c.h.Cells)
		c.roots = append(c.roots, wrong[sortedKeys(map[string]bool{"number": true, "place": true, "kind": true, "head": true})[at%4]][0])
		all = append(all, c)
	}
	for _, c := range wrongHeaps() {
		all = append(all, heapCase{c.h, nil}, heapCase{c.h, toldWords("@0 1 nil")})
	}
	for _, text := range []string{"0:", "7:", "3: pair 1 2", "20: pair 1 2", "20: pair @0 @0", "20: cons 1 @0; rec 3 @3 @0 t"} {
		all = append(all, heapCase{toldHeap(text), nil}, heapCase{toldHeap(text), toldWords("1")}, heapCase{toldHeap(text), toldWords("@0 @0")}, heapCase{toldHeap(text), toldWords("@1")})
	}
	all = append(all, heapCase{impl.Heap{Size: 9, Cells: []impl.Word{}}, []impl.Word{}})
	return all
}

// givenObjects are heads and fields to allocate, right and not.
func givenObjects() map[impl.Word][]impl.Word {
	return map[impl.Word][]impl.Word{{K: impl.WdPair}: toldWords("1 2"), {K: impl.WdCons}: toldWords("@0 nil"), {K: impl.WdRec, N: 303}: toldWords("@0 t 5"), {K: impl.WdRec}: nil, {K: impl.WdRec, N: 1}: toldWords("@1"), {K: impl.WdRec, N: 2}: toldWords("1 2 3"), {K: impl.WdNum}: nil, {K: impl.WdPair, N: 3}: toldWords("7 7")}
}

func TestHeapArgumentsStay(t *testing.T) {
	t.Parallel()
	for _, c := range heapArguments() {
		h, roots := roomyHeap(c.h), roomyWords(c.roots)
		kept, keptRoots := fullWords(h.Cells), fullWords(roots)
		impl.HeapOk(h)
		got, own := impl.Collect(h, roots)
		impl.Reached(h, roots)
		for _, w := range append(slices.Clone(c.roots), toldWords("1 @0 @1")...) {
			impl.Show(h, w)
		}
		for head, given := range givenObjects() {
			fields := roomyWords(given)
			keptFields := fullWords(fields)
			more, _, _ := impl.Alloc(h, head, fields)
			for at := range more.Cells {
				more.Cells[at] = impl.Word{K: 77, N: 77}
			}
			if !slices.Equal(fullWords(fields), keptFields) {
				t.Fatal("fields were written to", wordsText(given))
			}
		}
		for at := range got.Cells {
			got.Cells[at] = impl.Word{K: 77, N: 77}
		}
		for at := range own {
			own[at] = impl.Word{K: 77, N: 77}
		}
		_, _ = append(got.Cells, wdNum(1)), append(own, wdNum(1))
		if !slices.Equal(fullWords(h.Cells), kept) || !slices.Equal(fullWords(roots), keptRoots) {
			t.Fatal("an argument was written to", heapText(c.h), wordsText(c.roots))
		}
	}
}

// What lies behind a list's length is not there.
func TestHeapSpareRoomIsNotRead(t *testing.T) {
	t.Parallel()
	for _, c := range heapArguments() {
		h, roots := roomyHeap(c.h), roomyWords(c.roots)
		if impl.HeapOk(h) != impl.HeapOk(c.h) || impl.Reached(h, roots) != impl.Reached(c.h, c.roots) {
			t.Error(heapText(c.h), wordsText(c.roots))
		}
		want, wantRoots := impl.Collect(c.h, c.roots)
		collectedTo(t, h, roots, want, wantRoots)
		for _, w := range append(slices.Clone(c.roots), wdPtr(len(c.h.Cells)), wdPtr(0)) {
			if impl.Show(h, w) != impl.Show(c.h, w) {
				t.Error(heapText(c.h), w)
			}
		}
		for head, fields := range givenObjects() {
			want, wantPtr, wantOk := impl.Alloc(c.h, head, fields)
			got, ptr, ok := impl.Alloc(h, head, roomyWords(fields))
			if !equalHeaps(got, want) || ptr != wantPtr || ok != wantOk {
				t.Error(heapText(c.h), head)
			}
		}
	}
	// a head whose fields lie behind the length, a WdPtr to a head that does
	room := toldHeap("20: pair 1 2; pair @3 nil")
	for length := range room.Cells {
		h := impl.Heap{Size: 20, Cells: room.Cells[:length]}
		if want := length == 0 || length == 3; impl.HeapOk(h) != want {
			t.Error(length)
		}
		if impl.Show(h, wdPtr(3)) != "" || impl.Reached(h, toldWords("@3")) != 0 {
			t.Error(length)
		}
	}
}

func TestHeapAnswersAreNewMemory(t *testing.T) {
	t.Parallel()
	for _, c := range heapArguments() {
		h, roots := roomyHeap(c.h), roomyWords(c.roots)
		what := heapText(c.h) + " with " + wordsText(c.roots)
		given := slices.Concat(wordPlaces(h.Cells), wordPlaces(roots))
		one, oneRoots := impl.Collect(h, roots)
		two, twoRoots := impl.Collect(h, roots)
		ownPlaces(t, "Collect of "+what, slices.Concat(wordPlaces(one.Cells), wordPlaces(oneRoots), wordPlaces(two.Cells), wordPlaces(twoRoots)), given)
		for head, words := range givenObjects() {
			fields := roomyWords(words)
			one, _, _ := impl.Alloc(h, head, fields)
			two, _, _ := impl.Alloc(h, head, fields)
			ownPlaces(t, "Alloc of "+what, append(wordPlaces(one.Cells), wordPlaces(two.Cells)...), given, wordPlaces(fields))
		}
	}
	// roots and fields that are a cut of the heap itself
	for _, text := range []string{"20: pair @0 @3; cons 1 @0", "1: pair @0 @3; cons 1 @0", "20: pair @0 @1; cons 1 @0"} {
		h := toldHeap(text)
		kept := slices.Clone(h.Cells)
		for _, cut := range [][]impl.Word{h.Cells[1:3], h.Cells, h.Cells[:0], h.Cells[4:6]} {
			got, own := impl.Collect(h, cut)
			ownPlaces(t, text, append(wordPlaces(got.Cells), wordPlaces(own)...), wordPlaces(h.Cells))
			more, _, _ := impl.Alloc(h, impl.Word{K: impl.WdPair}, cut)
			ownPlaces(t, text, wordPlaces(more.Cells), wordPlaces(h.Cells))
			if !slices.Equal(h.Cells, kept) {
				t.Fatal("an argument was written to", text)
			}
		}
	}
	// two that are allocated behind one heap do not meet
	h := roomyHeap(toldHeap("20: pair 1 2"))
	one, _, _ := impl.Alloc(h, impl.Word{K: impl.WdPair}, toldWords("3 4"))
	two, _, _ := impl.Alloc(h, impl.Word{K: impl.WdCons}, toldWords("5 nil"))
	three, _, _ := impl.Alloc(one, impl.Word{K: impl.WdCons}, toldWords("6 nil"))
	if !equalHeaps(one, toldHeap("20: pair 1 2; pair 3 4")) || !equalHeaps(two, toldHeap("20: pair 1 2; cons 5 nil")) || !equalHeaps(three, toldHeap("20: pair 1 2; pair 3 4; cons 6 nil")) || len(h.Cells) != 3 {
		t.Error(heapText(one), heapText(two), heapText(three))
	}
}

// Nothing is kept from one call to another.
func TestHeapKeepsNothing(t *testing.T) {
	cases := heapArguments()
	type answer struct {
		h       impl.Heap
		roots   []impl.Word
		reached int
		texts   []string
	}
	answers := func(c heapCase) answer {
		var a answer
		a.h, a.roots = impl.Collect(c.h, c.roots)
		a.reached = impl.Reached(c.h, c.roots)
		for _, w := range c.roots {
			a.texts = append(a.texts, impl.Show(c.h, w))
		}
		return a
	}
	var first []answer
	for _, c := range cases {
		first = append(first, answers(c))
	}
	for at, c := range slices.Backward(cases) {
		impl.Collect(impl.Heap{Size: -1}, toldWords("@5"))
		impl.Show(toldHeap("3: cons 1 @0"), wdPtr(0))
		impl.Alloc(impl.HeapNew(5000), impl.Word{K: impl.WdRec, N: 3}, toldWords("1 2 3"))
		second := answers(c)
		if !equalHeaps(first[at].h, second.h) || !slices.Equal(first[at].roots, second.roots) || first[at].reached != second.reached || !slices.Equal(first[at].texts, second.texts) {
			t.Error(heapText(c.h), wordsText(c.roots))
		}
	}
}
