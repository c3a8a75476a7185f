package tests

import (
	"fmt"
	"math"
	"math/rand"
	"slices"
	"strconv"
	"strings"
	"testing"

	"loop.example/g00187/impl"
)

// plainWork is what the test's own steps make of a text, each from what the one ahead made.
type plainWork struct {
	why                   int
	read, mono, folded    impl.Term
	prog                  impl.Prog
	lowered, packed, code impl.Code
}

func plainWorkOn(text string) plainWork {
	var w plainWork
	read, ok := impl.ParseTerm(text)
	if !ok {
		return plainWork{why: 1}
	}
	if plainTermText(read) != text {
		panic("the test's own: " + text)
	}
	w.read = read
	mono, code, _ := plainMono(read)
	if code != impl.MonoGood {
		return plainWork{why: map[int]int{impl.MonoForm: 2, impl.MonoMany: 3, impl.MonoBig: 4}[code]}
	}
	w.mono = mono
	w.folded, _ = plainFold(mono)
	w.prog = plainDefun(plainUnlike(w.folded))
	w.lowered = plainLower(w.prog)
	if len(codeFaults(w.lowered)) > 0 {
		return plainWork{why: 4}
	}
	w.packed = plainPackAll(w.lowered)
	w.code = plainTrimAll(w.packed)
	return w
}

func (w plainWork) sizes() [5]int {
	if w.why != 0 {
		return [5]int{}
	}
	regs := 0
	for _, p := range piecesOf(&w.code) {
		regs += p.Regs
	}
	return [5]int{plainNodes(w.read), plainNodes(w.folded), len(w.prog.Funs), insInAll(w.code), regs}
}

// run is what RunText must answer.
func (w plainWork) run(fuel int) impl.Outcome {
	if w.why != 0 || fuel < 0 || fuel > 20000 {
		return impl.Outcome{}
	}
	end, _ := plainRun(w.read, fuel)
	return end
}

// steps is how much of the fuel the term takes.
func (w plainWork) steps() int {
	if w.why != 0 {
		return 0
	}
	_, steps := plainEnd(w.read, impl.MaxFuel)
	return steps
}

// compiledTo fails when Compile or Sizes does not tell this; but for AllGood the Code must be the zero one, and the numbers 0.
func compiledTo(t *testing.T, text string, code impl.Code, sizes [5]int, why int) {
	t.Helper()
	got, is := impl.Compile(text)
	if is != why || !equalCodes(got, code) {
		t.Errorf("%.300q: Compile is %d and\n%s, not %d and\n%s", text, is, codeText(got), why, codeText(code))
	}
	if got := impl.Sizes(text); got != sizes {
		t.Errorf("%.300q: Sizes are %v, not %v", text, got, sizes)
	}
	if why == impl.AllGood {
		codeIs(t, text, got, "")
	}
}

// ranText fails when RunText does not tell this.
func ranText(t *testing.T, text string, fuel int, want impl.Outcome) {
	t.Helper()
	if got := impl.RunText(text, fuel); got != want {
		t.Errorf("%.300q: RunText with %d is %v, not %v", text, fuel, got, want)
	}
}

// fuelsAround are fuels of all sorts: of those that are right such as are just enough, just too few, much and none.
func fuelsAround(steps int) []int {
	fuels := []int{math.MinInt, math.MinInt + 1, -20000, -2, -1, 0, 1, steps / 2, steps, min(steps+1, 20000), 5000, 19999, 20000, 20001, 20002, 1 << 32, math.MaxInt - 1, math.MaxInt}
	if steps > 0 {
		fuels = append(fuels, steps-1)
	}
	return fuels
}

// asPlainAll holds Compile, Sizes and RunText against the test's own.
func asPlainAll(t *testing.T, text string) plainWork {
	t.Helper()
	w := plainWorkOn(text)
	asPlainWork(t, text, w, fuelsAround(w.steps())...)
	return w
}

func asPlainWork(t *testing.T, text string, w plainWork, fuels ...int) {
	t.Helper()
	compiledTo(t, text, w.code, w.sizes(), w.why)
	for _, fuel := range fuels {
		ranText(t, text, fuel, w.run(fuel))
	}
}

// asStepByStep holds Compile and Sizes of a good text against what the program's steps tell, one after the other.
func asStepByStep(t *testing.T, text string) {
	t.Helper()
	read, ok := impl.ParseTerm(text)
	mono, code := impl.Mono(read)
	if !ok || !impl.Program(read) || code != impl.MonoGood {
		t.Errorf("%s: %v, %v, %d", text, ok, impl.Program(read), code)
		return
	}
	folded := impl.FoldAll(mono)
	own, ok := impl.Unlike(folded)
	p, is := impl.Defun(own)
	c, fits := impl.Lower(p)
	if !ok || !is || !fits {
		t.Errorf("%s: %v, %v, %v", text, ok, is, fits)
		return
	}
	c = impl.TrimAll(impl.PackAll(c))
	regs := 0
	for _, piece := range piecesOf(&c) {
		regs += piece.Regs
	}
	compiledTo(t, text, c, [5]int{impl.NodesOf(read), impl.NodesOf(folded), len(p.Funs), impl.Count(c), regs}, impl.AllGood)
}

// notCompiled fails when anything but this is told of a text.
func notCompiled(t *testing.T, text string, why int) {
	t.Helper()
	if own := plainWorkOn(text); own.why != why || why == 0 {
		t.Errorf("the test's own: %.300q: %d, not %d", text, own.why, why)
	}
	compiledTo(t, text, impl.Code{}, [5]int{}, why)
	for _, fuel := range fuelsAround(3) {
		ranText(t, text, fuel, impl.Outcome{})
	}
}

// compiles fails when a text is not good, or not as the test's own and as the steps tell.
func compiles(t *testing.T, text string) plainWork {
	t.Helper()
	w := asPlainAll(t, text)
	if w.why != 0 {
		t.Errorf("%s: %d", text, w.why)
		return w
	}
	asStepByStep(t, text)
	return w
}

// allCase is a program, what it ends with, its Sizes and its Code as toldCode reads it.
type allCase struct{ text, told, sizes, code string }

func compiledAll(t *testing.T, cases []allCase) {
	t.Helper()
	for _, c := range cases {
		w := compiles(t, c.text)
		var sizes [5]int
		if _, err := fmt.Sscan(c.sizes, &sizes[0], &sizes[1], &sizes[2], &sizes[3], &sizes[4]); err != nil {
			t.Fatal(c.sizes, err)
		}
		want := toldCode(c.code)
		if !equalCodes(w.code, want) || w.sizes() != sizes || w.run(impl.MaxFuel) != ends(c.told) {
			t.Errorf("the test's own: %s: %v, %v,\n%s", c.text, w.sizes(), w.run(impl.MaxFuel), codeText(w.code))
		}
		compiledTo(t, c.text, want, sizes, impl.AllGood)
		ranText(t, c.text, impl.MaxFuel, ends(c.told))
		endsAsItsText(t, c.text, impl.MaxFuel)
	}
}

// allCounts are how often something was met.
type allCounts struct{ values, raises, fuels, rooms, collected, caught, called int }

func (n *allCounts) add(m allCounts) {
	n.values += m.values
	n.raises += m.raises
	n.fuels += m.fuels
	n.rooms += m.rooms
	n.collected += m.collected
	n.caught += m.caught
	n.called += m.called
}

// endsAsItsText fails when with this fuel RunCode, RunProg or RunMach of what is compiled does not end as RunText does, but for a lack of fuel or room.
func endsAsItsText(t *testing.T, text string, fuel int) allCounts {
	t.Helper()
	var n allCounts
	want := impl.RunText(text, fuel)
	c, why := impl.Compile(text)
	if why != impl.AllGood || want.End == 0 {
		t.Errorf("%s: %d and %v", text, why, want)
		return n
	}
	code, w := plainRunCode(c, fuel)
	n.caught = w.caught
	if w.noCase > 0 || w.wrong > 0 || w.loose > 0 {
		t.Errorf("%s: %d calls without a case, %d wrong, %d loose", text, w.noCase, w.wrong, w.loose)
	}
	switch code.End {
	case impl.EndValue:
		n.values++
	case impl.EndRaise:
		n.raises++
	case impl.EndFuel:
		n.fuels++
	}
	if w.deep > 1 {
		n.called++
	}
	same := func(how string, end impl.Outcome) {
		if end.End == 0 || !impl.SameEnd(end, want) || end != isFuel && code != isFuel && end != code {
			t.Errorf("%s: with %d by %s it ends with %v, not %v", text, fuel, how, end, want)
		}
	}
	same("the test's own RunCode", code)
	if got := impl.RunCode(c, fuel); got != code {
		t.Errorf("%s: RunCode is %v, not %v", text, got, code)
	}
	p := plainWorkOn(text).prog
	same("RunProg", impl.RunProg(p, fuel))
	for _, size := range []int{0, 3, 7, 20, 60, 5000} {
		for _, every := range []int{0, 1, 3} {
			end, collected := impl.RunMach(c, size, every, fuel)
			n.collected += collected
			if end == isRoom {
				n.rooms++
				continue
			}
			if end != code {
				t.Errorf("%s: RunMach with %d, %d, %d is %v, not %v", text, size, every, fuel, end, code)
			}
		}
	}
	return n
}

// asNumber makes a program of a right term of any type that has no free names and no points in its names: its value is left out.
func asNumber(t impl.Term) impl.Term {
	if impl.Program(t) {
		return t
	}
	return tmLet("whole", 0, t, tmNum(1))
}

// allTexts are texts of programs of all sorts, found by chance, always the same ones, most of them good ones.
func allTexts(n int) []string {
	var texts []string
	for _, t := range slices.Concat(polyPrograms(n), typedTerms(n/2), loopTerms(n/2), knots(n/2), calledTerms(n/4), foldTerms(n/2)) {
		if whole := asNumber(t); impl.Program(whole) {
			texts = append(texts, plainTermText(whole))
		}
	}
	return texts
}

// tokenSorts are tokens that may stand for each other: most often what comes is a term again.
var tokenSorts = [][]string{
	{"t", "u"}, {"fst", "snd"}, {"pair", "app", "cons"}, {"+", "-", "*", "<", "="}, {"i", "b", "v0", "v1"}, {"f", "p"}, {"0", "1", "2", "7", "-1", "1000000", "1000001"},
	{"x", "y", "z", "f", "g", "e", "h", "r", "c", "w", "id", "longname", "sevenby", "x.1", "longnames"},
}

// changedText is a text with one of its tokens changed, by chance.
func changedText(r *rand.Rand, text string) string {
	tokens := strings.Split(text, " ")
	at := r.Intn(len(tokens))
	others := []string{"n", "v", "fn", "let", "fix", "if", "nil", "case", "op", "raise", "try", "l", "", "?"}
	for _, sort := range tokenSorts {
		others = append(others, sort...)
	}
	switch r.Intn(16) {
	case 0:
		tokens = slices.Delete(tokens, at, at+1)
	case 1:
		tokens = slices.Insert(tokens, at, others[r.Intn(len(others))])
	case 2:
		other := r.Intn(len(tokens))
		tokens[at], tokens[other] = tokens[other], tokens[at]
	case 3:
		tokens[at] = others[r.Intn(len(others))]
	case 4, 5, 6:
		// a name, wherever it stands
		names := tokenSorts[len(tokenSorts)-1]
		if was, is := tokens[at], names[r.Intn(len(names))]; slices.Contains(names, was) {
			for i := range tokens {
				if tokens[i] == was {
					tokens[i] = is
				}
			}
		}
	default:
		for _, sort := range tokenSorts {
			if slices.Contains(sort, tokens[at]) {
				tokens[at] = sort[r.Intn(len(sort))]
				break
			}
		}
	}
	return strings.Join(tokens, " ")
}

// renamedText is a program's text with other names: each has this ahead of it.
func renamedText(t *testing.T, text, ahead string) string {
	t.Helper()
	term := fullTerm(parsedTerm(t, text))
	for _, n := range nodesOf(&term) {
		if n.S != "" {
			n.S = ahead + n.S
		}
		if n.Z != "" {
			n.Z = ahead + n.Z
		}
	}
	return plainTermText(term)
}

// countedDown is the text of a program that is called so often by itself.
func countedDown(n int) string {
	return "fix f 0 f i i fn x i if op < v x 0 n 1 n 0 app v f 0 op - v x 0 n 1 app v f 0 n " + strconv.Itoa(n)
}
