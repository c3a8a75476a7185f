package tests

import (
	"fmt"
	"math"
	"math/rand"
	"slices"
	"strconv"
	"strings"
	"testing"

	"loop.example/g00187/impl"
)

// opGoes is where each Op goes on: n at the next one, t at its To, r where a raise goes on.
var opGoes = map[int]string{1: "n", 2: "n", 3: "n", 4: "n", 5: "nr", 6: "n", 7: "n", 8: "n", 9: "nr", 10: "nr", 11: "tnr", 12: "tnr", 13: "t", 14: "nr", 15: "", 16: "r", 17: "n", 18: "n"}

// toldPiece reads In, Regs, ":", and its Ins with ";" between; it asks for the form alone.
func toldPiece(text string) impl.Piece {
	head, ins, ok := strings.Cut(text, ":")
	r := progReader{strings.Fields(head)}
	p := impl.Piece{Lam: 3, In: r.number(), Regs: r.number()}
	if !ok || len(r.words) > 0 {
		panic("the test's own: " + text)
	}
	if strings.TrimSpace(ins) != "" {
		p.Ins = toldList(ins)
	}
	return p
}

func toldNumbers(text string) []int {
	var all []int
	for _, word := range strings.Fields(text) {
		n, err := strconv.Atoi(word)
		if err != nil {
			panic(err)
		}
		all = append(all, n)
	}
	return all
}

// toldLists reads lists with "," between; "-" is one without numbers.
func toldLists(text string) [][]int {
	var all [][]int
	for _, one := range strings.Split(text, ",") {
		if strings.TrimSpace(one) == "-" {
			one = ""
		}
		all = append(all, toldNumbers(one))
	}
	return all
}

func pieceText(p impl.Piece) string {
	s := fmt.Sprintf("in %d regs %d:", p.In, p.Regs)
	for at, i := range p.Ins {
		s += fmt.Sprintf(" [%d] %s", at, plainInsText(i))
	}
	return s
}

// plainTry is the place of the OpTry to which a raise at the i-th goes; -1.
func plainTry(p impl.Piece, i int) int {
	var open []int
	for at := range i {
		switch p.Ins[at].Op {
		case 17:
			open = append(open, at)
		case 18:
			open = open[:max(len(open)-1, 0)]
		}
	}
	if len(open) == 0 {
		return -1
	}
	return open[len(open)-1]
}

// plainGuard is what Guard must answer, written anew.
func plainGuard(p impl.Piece, i int) int {
	if i < 0 || i >= len(p.Ins) || plainTry(p, i) < 0 {
		return -1
	}
	return p.Ins[plainTry(p, i)].To
}

// plainGoes is where an Op goes on; one that is none goes on at the next one.
func plainGoes(op int) string {
	if goes, known := opGoes[op]; known {
		return goes
	}
	return "n"
}

func setOf(all map[int]bool) []int {
	var list []int
	for n := range all {
		list = append(list, n)
	}
	slices.Sort(list)
	return list
}

// plainNexts is what Nexts must answer, written anew.
func plainNexts(p impl.Piece, i int) []int {
	if i < 0 || i >= len(p.Ins) {
		return nil
	}
	places := map[int]bool{}
	for _, goes := range plainGoes(p.Ins[i].Op) {
		switch goes {
		case 'n':
			places[i+1] = true
		case 't':
			places[p.Ins[i].To] = true
		case 'r':
			if guard := plainGuard(p, i); guard != -1 {
				places[guard] = true
			}
		}
	}
	return setOf(places)
}

// plainReads is what Reads must answer, written anew.
func plainReads(i impl.Ins) []int {
	regs := map[int]bool{}
	for _, field := range opFields[i.Op] {
		if field == 'X' || field == 'Y' {
			regs[*fieldAt(&i, field)] = true
		}
	}
	if i.Op == 8 {
		for _, reg := range i.L {
			regs[reg] = true
		}
	}
	return setOf(regs)
}

// plainWrites is what Writes must answer, written anew.
func plainWrites(i impl.Ins) int {
	if i.Op != 17 && strings.Contains(opFields[i.Op], "D") {
		return i.D
	}
	return -1
}

// liveEdge goes from one place to another; what lives there lives ahead of the first, but one register.
type liveEdge struct {
	from, to, but int
	raise         bool
}

func liveEdges(p impl.Piece) []liveEdge {
	var all []liveEdge
	for at, i := range p.Ins {
		for _, goes := range plainGoes(i.Op) {
			switch try := plainTry(p, at); {
			case goes == 'n':
				all = append(all, liveEdge{at, at + 1, plainWrites(i), false})
			case goes == 't':
				all = append(all, liveEdge{at, i.To, plainWrites(i), false})
			case try >= 0:
				all = append(all, liveEdge{at, p.Ins[try].To, p.Ins[try].D, true})
			}
		}
	}
	return all
}

// plainLive is what Live must answer of a right Piece, written anew: from where a register is read it goes back over each edge that does not cut it off.
func plainLive(p impl.Piece) [][]int {
	live := make([][]int, len(p.Ins))
	into := make([][]liveEdge, len(p.Ins))
	for _, e := range liveEdges(p) {
		into[e.to] = append(into[e.to], e)
	}
	readers := map[int][]int{}
	for at, i := range p.Ins {
		for _, reg := range plainReads(i) {
			readers[reg] = append(readers[reg], at)
		}
	}
	for reg := range p.Regs {
		met := map[int]bool{}
		var work []int
		meet := func(at int) {
			if !met[at] {
				met[at] = true
				work = append(work, at)
			}
		}
		for _, at := range readers[reg] {
			meet(at)
		}
		for len(work) > 0 {
			to := work[len(work)-1]
			work = work[:len(work)-1]
			for _, e := range into[to] {
				if e.but != reg {
					meet(e.from)
				}
			}
		}
		for _, at := range setOf(met) {
			live[at] = append(live[at], reg)
		}
	}
	return live
}

// pieceFaults are the conditions of a right Piece that p breaks, by their names, sorted, each once; Lams are left aside.
func pieceFaults(p impl.Piece) []string {
	faults := map[string]bool{}
	ask := func(ok bool, fault string) {
		if !ok && !slices.Contains([]string{"no fun", "count", "no fun in L", "order of L"}, fault) {
			faults[fault] = true
		}
	}
	ask(p.In >= 0, "in")
	ask(p.Regs >= p.In && p.Regs <= 400, "regs")
	ask(len(p.Ins) >= 1, "no ins")
	ask(len(p.Ins) <= 600, "many ins")
	if len(p.Ins) >= 1 && len(p.Ins) <= 600 {
		last := p.Ins[len(p.Ins)-1].Op
		ask(last == 15 || last == 13, "last")
		for _, i := range p.Ins {
			insFaults(ask, p, i, nil)
		}
	}
	return sortedKeys(faults)
}

// liveFaults are the conditions of LiveOk that these lists break, by their names, sorted, each once.
func liveFaults(p impl.Piece, live [][]int) []string {
	faults := map[string]bool{}
	if len(pieceFaults(p)) > 0 {
		return []string{"piece"}
	}
	if len(live) != len(p.Ins) {
		return []string{"count"}
	}
	has := make([]map[int]bool, len(live))
	for at, list := range live {
		has[at] = map[int]bool{}
		for n, reg := range list {
			has[at][reg] = true
			if reg < 0 || reg >= p.Regs {
				faults["register"] = true
			}
			if n > 0 && list[n-1] >= reg {
				faults["order"] = true
			}
		}
	}
	for at, i := range p.Ins {
		for _, reg := range plainReads(i) {
			if !has[at][reg] {
				faults["reads"] = true
			}
		}
	}
	for _, e := range liveEdges(p) {
		for _, reg := range live[e.to] {
			if reg != e.but && !has[e.from][reg] {
				faults[map[bool]string{false: "next", true: "raise"}[e.raise]] = true
			}
		}
	}
	return sortedKeys(faults)
}

// liveIs fails when LiveOk is not so; faults are those that are broken, with ", " between.
func liveIs(t *testing.T, why string, p impl.Piece, live [][]int, faults string) {
	t.Helper()
	if own := strings.Join(liveFaults(p, live), ", "); own != faults {
		t.Errorf("the test's own: %s: %v: %q, not %q", why, live, own, faults)
	}
	if got := impl.LiveOk(p, live); got != (faults == "") {
		t.Errorf("%s: %s: LiveOk of %v is %v (%s)", why, pieceText(p), live, got, faults)
	}
}

func sameLists(a, b [][]int) bool {
	return slices.EqualFunc(a, b, func(a, b []int) bool { return slices.Equal(a, b) })
}

func copyLists(lists [][]int) [][]int {
	var all [][]int
	for _, list := range lists {
		all = append(all, slices.Clone(list))
	}
	return all
}

// allRegisters has each register ahead of each instruction (of what is far too great, some).
func allRegisters(p impl.Piece) [][]int {
	var all [][]int
	for range p.Ins {
		var list []int
		for reg := range min(max(p.Regs, 0), 500) {
			list = append(list, reg)
		}
		all = append(all, list)
	}
	return all
}

// edgesAsPlain holds Guard, Nexts, Reads and Writes against the test's own, at each place and past the ends.
func edgesAsPlain(t *testing.T, p impl.Piece) {
	t.Helper()
	for at := -2; at <= len(p.Ins)+2; at++ {
		if got, want := impl.Guard(p, at), plainGuard(p, at); got != want {
			t.Errorf("%s: Guard at %d is %d, not %d", pieceText(p), at, got, want)
		}
		if got, want := impl.Nexts(p, at), plainNexts(p, at); !slices.Equal(got, want) {
			t.Errorf("%s: Nexts at %d are %v, not %v", pieceText(p), at, got, want)
		}
	}
	for _, i := range p.Ins {
		readsAndWrites(t, i, plainReads(i), plainWrites(i))
	}
}

func readsAndWrites(t *testing.T, i impl.Ins, reads []int, writes int) {
	t.Helper()
	if own, is := plainReads(i), plainWrites(i); !slices.Equal(own, reads) || is != writes {
		t.Errorf("the test's own: %s: %v and %d, not %v and %d", plainInsText(i), own, is, reads, writes)
	}
	if got := impl.Reads(i); !slices.Equal(got, reads) {
		t.Errorf("%s: reads %v, not %v", plainInsText(i), got, reads)
	}
	if got := impl.Writes(i); got != writes {
		t.Errorf("%s: writes %d, not %d", plainInsText(i), got, writes)
	}
}

// livesTo fails when Live does not tell these lists, or LiveOk does not take them.
func livesTo(t *testing.T, p impl.Piece, want [][]int) {
	t.Helper()
	if got := impl.Live(p); !sameLists(got, want) {
		t.Errorf("%s: lives %v, not %v", pieceText(p), got, want)
	}
	liveIs(t, "least", p, want, "")
}

// asPlainLive holds all functions of the chapter against the test's own.
func asPlainLive(t *testing.T, p impl.Piece) [][]int {
	t.Helper()
	edgesAsPlain(t, p)
	want := plainLive(p)
	livesTo(t, p, want)
	liveIs(t, "all registers", p, allRegisters(p), "")
	return want
}

// livedNowhere fails when Live tells anything, or LiveOk takes anything, of what is not right.
func livedNowhere(t *testing.T, why string, p impl.Piece, faults string) {
	t.Helper()
	if own := strings.Join(pieceFaults(p), ", "); own != faults || faults == "" {
		t.Errorf("the test's own: %s: %q, not %q", why, own, faults)
	}
	if got := impl.Live(p); len(got) != 0 {
		t.Errorf("%s: lives %v", why, got)
	}
	for _, live := range [][][]int{nil, {}, make([][]int, len(p.Ins)), allRegisters(p), {{}}, {{0}}} {
		liveIs(t, why, p, live, "piece")
	}
}

// triedText is a right Piece with an OpTry, as toldPiece reads it.
const triedText = "2 5: try 2 6; add 3 0 1; end; move 4 3; jump 7; num 1 1; move 4 2; ret 4"

// wrongPiece is a Piece that is not right, and the one condition that it breaks.
type wrongPiece struct {
	why    string
	p      impl.Piece
	faults string
}

// wrongPieces break each condition of a right Piece, each one alone.
func wrongPieces() []wrongPiece {
	ret := toldList("ret 0")
	all := []wrongPiece{
		{"In -1", impl.Piece{In: -1, Regs: 1, Ins: ret}, "in"}, {"In past Regs", impl.Piece{In: 2, Regs: 1, Ins: ret}, "regs"}, {"In 401", impl.Piece{In: 401, Regs: 401, Ins: ret}, "regs"}, {"Regs 401", impl.Piece{Regs: 401, Ins: ret}, "regs"}, {"Regs -1", impl.Piece{Regs: -1, Ins: toldList("jump 0")}, "regs"}, {"Regs far too great", impl.Piece{Regs: math.MaxInt, Ins: ret}, "regs"},
		{"In far too little", impl.Piece{In: math.MinInt, Regs: 1, Ins: ret}, "in"}, {"no Ins", impl.Piece{In: 1, Regs: 1}, "no ins"}, {"no Ins", impl.Piece{In: 1, Regs: 1, Ins: []impl.Ins{}}, "no ins"}, {"601 Ins", impl.Piece{Regs: 1, Ins: slices.Repeat(ret, 601)}, "many ins"}, {"very many Ins", impl.Piece{Regs: 1, Ins: slices.Repeat(ret, 5000)}, "many ins"},
	}
	for text, faults := range map[string]string{
		// the last one
		"0 1: num 0 1": "last", "0 1: ret 0; num 0 1": "last", "0 1: raise 0": "last", "0 1: ifnot 0 0": "last", "0 1: end": "last", "0 1: try 0 0": "last", "0 1: call 0 0 0": "last",
		// registers
		"0 1: num 1 0; ret 0": "register D", "0 1: num -1 0; ret 0": "register D", "0 1: try 1 1; ret 0": "register D", "0 1: ret 1": "register X", "0 1: ret -1": "register X", "0 1: move 0 1; ret 0": "register X", "0 1: raise 7; ret 0": "register X", "0 1: ifnot 1 0; ret 0": "register X", "0 1: pair 0 0 1; ret 0": "register Y", "0 1: call 0 0 -1; ret 0": "register Y", "0 1: make 0 9 1; ret 0": "register L", "0 1: make 0 9 0 -1 0; ret 0": "register L", "0 0: ret 0": "register X",
		// places
		"0 1: jump 1": "to", "0 1: jump -1; ret 0": "to", "0 1: try 0 2; ret 0": "to", "0 1: try 0 -1; ret 0": "to", "0 1: ifnot 0 2; ret 0": "to", "0 1: ifnil 0 600; ret 0": "to",
		// numbers
		"0 1: num 0 1000001; ret 0": "number", "0 1: num 0 -1000001; ret 0": "number", "0 1: bool 0 2; ret 0": "number", "0 1: bool 0 -1; ret 0": "number",
		// behind what goes on nowhere it is asked too
		"0 1: ret 0; ret 1": "register X", "0 1: jump 2; num 1 0; ret 0": "register D",
	} {
		all = append(all, wrongPiece{text, toldPiece(text), faults})
	}
	for why, change := range map[string]func(*impl.Ins){
		"op": func(i *impl.Ins) { i.Op = 0 }, "field D": func(i *impl.Ins) { i.Op, i.D = impl.OpEnd, 1 }, "field X": func(i *impl.Ins) { i.Op, i.X = impl.OpEnd, 1 }, "field Y": func(i *impl.Ins) { i.Op, i.Y = impl.OpEnd, 1 }, "field N": func(i *impl.Ins) { i.Op, i.N = impl.OpEnd, 1 }, "field T": func(i *impl.Ins) { i.Op, i.To = impl.OpEnd, 1 }, "field L": func(i *impl.Ins) { i.Op, i.L = impl.OpEnd, []int{1} }, "number": func(i *impl.Ins) { i.Op, i.N = impl.OpArith, 6 },
	} {
		p := toldPiece(triedText)
		p.Ins[2] = impl.Ins{}
		change(&p.Ins[2])
		all = append(all, wrongPiece{why, p, why})
	}
	for _, op := range []int{0, 19, -1} {
		p := toldPiece(triedText)
		p.Ins[2].Op = op
		all = append(all, wrongPiece{"Op " + strconv.Itoa(op), p, "op"})
	}
	return all
}

// oneLess and oneMore hold LiveOk of lists that have one register less, or more, than the least at each place; they tell how many of those held, and how many did not.
func oneLess(t *testing.T, p impl.Piece, least [][]int) {
	t.Helper()
	for at, list := range least {
		for n := range list {
			less := copyLists(least)
			less[at] = slices.Delete(less[at], n, n+1)
			if impl.LiveOk(p, less) || len(liveFaults(p, less)) == 0 {
				t.Errorf("%s: LiveOk of %v", pieceText(p), less)
			}
		}
	}
}

func oneMore(t *testing.T, p impl.Piece, least [][]int) (held, broke int) {
	t.Helper()
	for at, list := range least {
		for reg := range p.Regs {
			if slices.Contains(list, reg) {
				continue
			}
			more := copyLists(least)
			more[at] = append(more[at], reg)
			slices.Sort(more[at])
			faults := strings.Join(liveFaults(p, more), ", ")
			liveIs(t, "one more", p, more, faults)
			if faults == "" {
				held++
			} else {
				broke++
			}
		}
	}
	return held, broke
}

// triedPieces are right Pieces, found by chance, always the same ones, with many OpTrys and OpEnds; some are small.
func triedPieces(n int) []impl.Piece {
	r := rand.New(rand.NewSource(67))
	m := codeMaker{r: r, funs: []impl.Piece{{Lam: 2, In: 1}, {Lam: 3, In: 3}}}
	var all []impl.Piece
	for len(all) < n {
		p := impl.Piece{Lam: r.Intn(5) - 1, Regs: 1 + r.Intn(7)}
		p.In = r.Intn(p.Regs + 1)
		places := 1 + r.Intn(20)
		for at := range places {
			i := m.ins(p, places, at == places-1)
			if at < places-1 {
				switch r.Intn(7) {
				case 0, 1:
					i = impl.Ins{Op: 17, D: r.Intn(p.Regs), To: r.Intn(places)}
				case 2:
					i = impl.Ins{Op: 18}
				}
			}
			p.Ins = append(p.Ins, i)
		}
		all = append(all, p)
	}
	return all
}

// loweredCodes are the Codes of terms and of Progs by chance.
func loweredCodes(t *testing.T, n int) []impl.Code {
	t.Helper()
	progs := anyProgs(n)
	for _, term := range slices.Concat(knots(n), calledTerms(n/4), flowTerms(n/4)) {
		p, ok := impl.Defun(term)
		if !ok {
			t.Fatal(plainTermText(term))
		}
		progs = append(progs, p)
	}
	var all []impl.Code
	for _, p := range progs {
		all = append(all, plainLower(p))
	}
	return all
}

// piecesOfAll are the Pieces of all these Codes.
func piecesOfAll(codes []impl.Code) []impl.Piece {
	var all []impl.Piece
	for _, c := range codes {
		for _, p := range piecesOf(&c) {
			all = append(all, *p)
		}
	}
	return all
}

// deadSpoiler puts something else, ahead of each instruction, into each register that does not live there; lists are by the Lam of a Piece.
type deadSpoiler struct {
	lists map[int][][]int
	with  codeValue
	// astray is how often a raise would have gone on elsewhere than at the Guard; spoilt how often a register was.
	astray, spoilt int
}

func (s *deadSpoiler) live(p impl.Piece) [][]int {
	if _, known := s.lists[p.Lam]; !known {
		s.lists[p.Lam] = impl.Live(p)
	}
	return s.lists[p.Lam]
}

func (s *deadSpoiler) ahead(p impl.Piece, at int, regs map[int]*codeValue, open []int) {
	goesOn := -1
	if len(open) > 0 {
		goesOn = open[len(open)-1]
	}
	if strings.Contains(opGoes[p.Ins[at].Op], "r") && goesOn != plainTry(p, at) {
		s.astray++
	}
	live := s.live(p)[at]
	for reg := range p.Regs {
		if !slices.Contains(live, reg) {
			with := s.with
			regs[reg] = &with
			s.spoilt++
		}
	}
}

// deadValues are what a register may have that does not live.
func deadValues() []codeValue {
	return []codeValue{{kind: 'n', n: 424242}, {kind: 'b', n: 1}, {kind: 'e'}, {kind: 'r', n: -7}, {kind: 'p', parts: []*codeValue{{kind: 'e'}, {kind: 'e'}}}}
}

// endsWithAnyDead fails when a Code ends otherwise where what does not live has another value; it tells whether each raise went on where the Guard says, and how many registers were spoilt.
func endsWithAnyDead(t *testing.T, c impl.Code, fuel int) (bool, int) {
	t.Helper()
	want, plain := plainRunCode(c, fuel)
	spoilt := 0
	for _, with := range deadValues() {
		s := &deadSpoiler{lists: map[int][][]int{}, with: with}
		w := &codeWalker{code: c, fuel: fuel, ahead: s.ahead}
		got := w.run()
		if s.astray > 0 {
			return false, 0
		}
		spoilt += s.spoilt
		if got != want || w.steps != plain.steps {
			t.Errorf("%s: with %s in what does not live: %v in %d, not %v in %d", codeText(c), codeShown(&with), got, w.steps, want, plain.steps)
		}
	}
	return true, spoilt
}
