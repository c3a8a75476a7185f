package tests

import (
	"fmt"
	"math"
	"math/rand"
	"slices"
	"strconv"
	"strings"
	"testing"

	"loop.example/g00187/impl"
)

// plainNeedsOf are the functions of the records in these terms, ascending, each once.
func plainNeedsOf(terms ...impl.FTerm) []int {
	made := map[int]bool{}
	for _, term := range terms {
		for _, n := range progNodes(&impl.Prog{Main: term}) {
			if n.K == 18 {
				made[n.N] = true
			}
		}
	}
	return setOf(made)
}

// plainNeeds is what Needs must answer of a right Prog, written anew.
func plainNeeds(p impl.Prog, lam int) []int {
	if lam == -1 {
		return plainNeedsOf(p.Main)
	}
	for _, f := range p.Funs {
		if f.Lam == lam {
			return plainNeedsOf(f.Body)
		}
	}
	return nil
}

// plainKept is what Kept must answer of a right Prog, written anew: all ways from one to another, each put together of two.
func plainKept(p impl.Prog) []int {
	leads := map[[2]int]bool{}
	lams := []int{-1}
	for _, f := range p.Funs {
		lams = append(lams, f.Lam)
	}
	for _, from := range lams {
		for _, to := range plainNeeds(p, from) {
			leads[[2]int{from, to}] = true
		}
	}
	for _, by := range lams {
		for _, from := range lams {
			for _, to := range lams {
				if leads[[2]int{from, by}] && leads[[2]int{by, to}] {
					leads[[2]int{from, to}] = true
				}
			}
		}
	}
	return slices.DeleteFunc(lams, func(lam int) bool { return !leads[[2]int{-1, lam}] })
}

// plainPrune is what Prune must answer of a right Prog, written anew.
func plainPrune(p impl.Prog) impl.Prog {
	kept := plainKept(p)
	goes := func(lam int) bool { return !slices.Contains(kept, lam) }
	pruned := evenProg(p)
	pruned.Funs = slices.DeleteFunc(pruned.Funs, func(f impl.Fun) bool { return goes(f.Lam) })
	for _, n := range progNodes(&pruned) {
		n.Cases = slices.DeleteFunc(n.Cases, goes)
	}
	return pruned
}

// plainSingles is what Singles must answer of a right Prog, written anew: calls with one case, by the words of its text.
func plainSingles(p impl.Prog) int {
	lines := 0
	for _, n := range progNodes(&p) {
		if n.K == 19 && strings.HasPrefix(plainBare(*n), " call 1 ") {
			lines++
		}
	}
	return lines
}

// lamsOf are the Lams of a Prog.
func lamsOf(p impl.Prog) []int {
	var lams []int
	for _, f := range p.Funs {
		lams = append(lams, f.Lam)
	}
	return lams
}

// noLams are numbers that no Fun has.
func noLams() []int {
	return []int{math.MinInt, math.MinInt + 1, -150, -20, -3, -2, 150, 151, 200, math.MaxInt - 1, math.MaxInt}
}

// toldNeeds reads what each needs, as "-1: 3 5; 3: 5"; what is not told needs nothing.
func toldNeeds(text string) map[int][]int {
	needs := map[int][]int{}
	for row := range strings.SplitSeq(text, ";") {
		if strings.TrimSpace(row) == "" {
			continue
		}
		lam, lams, ok := strings.Cut(row, ":")
		if !ok {
			panic("the test's own: " + text)
		}
		needs[mustInt(lam)] = toldLams(lams)
	}
	return needs
}

func toldLams(text string) []int {
	var lams []int
	for _, word := range strings.Fields(text) {
		lams = append(lams, mustInt(word))
	}
	return lams
}

func mustInt(word string) int {
	n, err := strconv.Atoi(strings.TrimSpace(word))
	if err != nil {
		panic(err)
	}
	return n
}

// pruneCase is a right Prog as toldProg reads it, what each needs as toldNeeds reads it, what is kept, the pruned one ("=": as it is), and how many calls have one case.
type pruneCase struct {
	text, needs, kept, pruned string
	singles                   int
}

func prunedCases(t *testing.T, cases []pruneCase) {
	t.Helper()
	for _, c := range cases {
		p := toldProg(c.text)
		want := p
		if c.pruned != "=" {
			want = toldProg(c.pruned)
		}
		needs := toldNeeds(c.needs)
		for lam := -1; lam < 150; lam++ {
			if own := plainNeeds(p, lam); !slices.Equal(own, needs[lam]) {
				t.Errorf("the test's own: %s: %d needs %v, not %v", c.text, lam, own, needs[lam])
			}
		}
		if own := plainKept(p); !slices.Equal(own, toldLams(c.kept)) || !equalProgs(plainPrune(p), want) || plainSingles(p) != c.singles {
			t.Errorf("the test's own: %s: %v, %s, %d", c.text, own, plainProgText(plainPrune(p)), plainSingles(p))
		}
		prunedTo(t, p, want, c.singles)
		if got, lines := impl.ProgText(impl.Prune(p)), plainProgText(want); got != lines {
			t.Errorf("%s: pruned to %q, not %q", c.text, got, lines)
		}
	}
}

// prunedTo fails when Needs, Kept, Prune or Singles of a right Prog are not as they must be, or what follows does not.
func prunedTo(t *testing.T, p, want impl.Prog, singles int) {
	t.Helper()
	text := plainProgText(p)
	progIs(t, text, p, "")
	for lam := -1; lam < 150; lam++ {
		if got, need := impl.Needs(p, lam), plainNeeds(p, lam); !slices.Equal(got, need) {
			t.Errorf("%s: %d needs %v, not %v", text, lam, got, need)
		}
	}
	for _, lam := range noLams() {
		if got := impl.Needs(p, lam); len(got) > 0 {
			t.Errorf("%s: %d needs %v", text, lam, got)
		}
	}
	if got, kept := impl.Kept(p), lamsOf(want); !slices.Equal(got, kept) {
		t.Errorf("%s: kept %v, not %v", text, got, kept)
	}
	if got := impl.Singles(p); got != singles {
		t.Errorf("%s: %d calls with one case, not %d", text, got, singles)
	}
	got := impl.Prune(p)
	if !equalProgs(got, want) {
		t.Errorf("%s: pruned to %s, not %s", text, plainProgText(got), plainProgText(want))
	}
	fitsPruned(t, p, got)
}

// asPlainPruned holds all of it against the test's own; it tells what is pruned.
func asPlainPruned(t *testing.T, p impl.Prog) impl.Prog {
	t.Helper()
	want := plainPrune(p)
	prunedTo(t, p, want, plainSingles(p))
	return want
}

// fitsPruned fails when what is pruned is not right, has other Funs than those that are kept, or does change when it is pruned once more.
func fitsPruned(t *testing.T, p, pruned impl.Prog) {
	t.Helper()
	text := plainProgText(p)
	if faults := progFaults(pruned); len(faults) > 0 || !impl.ProgOk(pruned) {
		t.Errorf("%s: pruned it breaks %v", text, faults)
		return
	}
	kept := impl.Kept(p)
	if !slices.Equal(lamsOf(pruned), kept) || !slices.Equal(impl.Kept(pruned), kept) {
		t.Errorf("%s: kept %v, pruned has %v and keeps %v", text, kept, lamsOf(pruned), impl.Kept(pruned))
	}
	if more := impl.Prune(pruned); !equalProgs(more, pruned) {
		t.Errorf("%s: pruned once more to %s", text, plainProgText(more))
	}
	for lam := -1; lam < 150; lam++ {
		need := impl.Needs(p, lam)
		if lam >= 0 && !slices.Contains(kept, lam) {
			need = nil
		}
		if got := impl.Needs(pruned, lam); !slices.Equal(got, need) {
			t.Errorf("%s: pruned %d needs %v, not %v", text, lam, got, need)
		}
	}
}

// runsPruned fails when what is pruned does not run just the same, with each fuel that matters; it tells how p ends, and the machine that ran it.
func runsPruned(t *testing.T, p impl.Prog, most int) (impl.Outcome, *progMachine) {
	t.Helper()
	pruned := impl.Prune(p)
	before, m := plainRunProg(p, most)
	after, n := plainRunProg(pruned, most)
	if after != before || n.steps != m.steps || n.noCase != m.noCase || n.wrong != m.wrong {
		t.Errorf("%s: pruned it ends with %v in %d, not %v in %d", plainProgText(p), after, n.steps, before, m.steps)
	}
	fuels := []int{m.steps - 1, m.steps, m.steps + 1, most, impl.MaxFuel, -1, impl.MaxFuel + 1}
	for fuel := range min(m.steps, 40) {
		fuels = append(fuels, fuel)
	}
	for _, fuel := range fuels {
		if got, want := impl.RunProg(pruned, fuel), impl.RunProg(p, fuel); got != want {
			t.Errorf("%s: pruned it ends with %v, not %v, with %d", plainProgText(p), got, want, fuel)
		}
	}
	return before, m
}

// notPruned fails when of what is not right anything is needed, kept or counted, or when it does not come back as it is.
func notPruned(t *testing.T, why string, p impl.Prog) {
	t.Helper()
	kept := evenProg(p)
	if len(progFaults(p)) == 0 {
		t.Errorf("the test's own: %s", why)
	}
	if got := impl.Prune(p); !equalProgs(got, kept) {
		t.Errorf("%s: pruned it is another one", why)
	}
	nothingPruned(t, why, p)
}

// nothingPruned is of what is not right, be it such that it can be gone through or not.
func nothingPruned(t *testing.T, why string, p impl.Prog) {
	t.Helper()
	for _, lam := range append(append(noLams(), lamsOf(p)[:min(len(p.Funs), 150)]...), -1, 0, 1, 149) {
		if got := impl.Needs(p, lam); len(got) > 0 {
			t.Errorf("%s: %d needs %v", why, lam, got)
		}
	}
	if got := impl.Kept(p); len(got) > 0 {
		t.Errorf("%s: kept %v", why, got)
	}
	if got := impl.Singles(p); got != 0 {
		t.Errorf("%s: %d calls with one case", why, got)
	}
}

// ftShared has 2^n ends, all of them at one place.
func ftShared(n int, t impl.FTerm) impl.FTerm {
	for range n {
		t = ftOf(impl.TmPair, t, t)
	}
	return t
}

// ftRound holds itself, by so many nodes.
func ftRound(nodes int) impl.FTerm {
	parts := make([]impl.FTerm, 1)
	parts[0] = impl.FTerm{K: impl.TmFst, A: parts}
	for range nodes - 1 {
		parts[0] = impl.FTerm{K: impl.TmFst, A: []impl.FTerm{parts[0]}}
	}
	return parts[0]
}

// progLists are the places where the lists of p are, right or not, with how many each has: each list is looked at once.
func progLists(p impl.Prog) map[any]int {
	lists := map[any]int{}
	terms := []impl.FTerm{p.Main}
	names := func(list []string) {
		if len(list) > 0 {
			lists[&list[0]] = len(list)
		}
	}
	if len(p.Funs) > 0 {
		lists[&p.Funs[0]] = len(p.Funs)
	}
	for _, f := range p.Funs {
		names(f.L)
		terms = append(terms, f.Body)
	}
	for len(terms) > 0 {
		at := terms[len(terms)-1]
		terms = terms[:len(terms)-1]
		names(at.L)
		if len(at.Cases) > 0 {
			lists[&at.Cases[0]] = len(at.Cases)
		}
		if len(at.A) > 0 && lists[&at.A[0]] < len(at.A) {
			lists[&at.A[0]] = len(at.A)
			terms = append(terms, at.A...)
		}
	}
	return lists
}

// linked is a right Prog of Funs of which each makes those that it is told to, in a row of pairs; -1 is Main, and each body that makes anything has a call with all of them as its cases.
func linked(lams []int, makes map[int][]int) impl.Prog {
	body := func(lam int) impl.FTerm {
		whole := ftNum(max(lam, 0))
		for _, other := range slices.Backward(makes[lam]) {
			whole = ftOf(impl.TmPair, ftMake(other), whole)
		}
		if len(makes[lam]) > 0 {
			whole = ftCall(whole, ftNum(1), lams...)
		}
		return whole
	}
	p := impl.Prog{Main: body(-1)}
	for _, lam := range lams {
		p.Funs = append(p.Funs, ftFun(lam, "x", body(lam)))
	}
	return p
}

// prunableProgs are right Progs in which many functions are not kept, found by chance, always the same ones: each body makes few others, its calls have cases of all.
func prunableProgs(n int) []impl.Prog {
	r := rand.New(rand.NewSource(61))
	var all []impl.Prog
	for len(all) < n {
		m := progMaker{r: r}
		for _, lam := range r.Perm(150)[:r.Intn(14)] {
			f := impl.Fun{Lam: []int{lam, lam, lam, 0, 149}[r.Intn(5)], S: m.name()}
			for range max(0, r.Intn(5)-2) {
				f.L = append(f.L, m.name())
			}
			if !slices.ContainsFunc(m.funs, func(g impl.Fun) bool { return g.Lam == f.Lam }) {
				m.funs = append(m.funs, f)
			}
		}
		slices.SortFunc(m.funs, func(a, b impl.Fun) int { return a.Lam - b.Lam })
		body := func(names []string, levels int) impl.FTerm {
			few := progMaker{r: r}
			for range min(len(m.funs), 1+r.Intn(3)) {
				few.funs = append(few.funs, m.funs[r.Intn(len(m.funs))])
			}
			return withCases(few.term(names, levels), m.cases)
		}
		p := impl.Prog{Main: body(nil, 3+r.Intn(5))}
		for _, f := range m.funs {
			f.Body = body(append(slices.Clone(f.L), f.S), 2+r.Intn(4))
			p.Funs = append(p.Funs, f)
		}
		if len(progNodes(&p)) <= 200 {
			all = append(all, p)
		}
	}
	return all
}

// withCases has other cases in each call.
func withCases(t impl.FTerm, cases func() []int) impl.FTerm {
	if t.K == impl.FkCall {
		t.Cases = cases()
	}
	t.A = slices.Clone(t.A)
	for i := range t.A {
		t.A[i] = withCases(t.A[i], cases)
	}
	return t
}

// pruneCounts are how often something was seen.
type pruneCounts map[string]int

func (c pruneCounts) look(p impl.Prog, end impl.Outcome, m *progMachine) {
	kept, needed := plainKept(p), plainNeeds(p, -1)
	c["gone"] += len(p.Funs) - len(kept)
	c["kept"] += len(kept)
	c["kept by others"] += len(kept) - len(needed)
	c[fmt.Sprint("end ", end.End)]++
	if m.noCase > 0 {
		c["no case"]++
	}
	var madeByGone []impl.FTerm
	for _, f := range p.Funs {
		if !slices.Contains(kept, f.Lam) {
			madeByGone = append(madeByGone, f.Body)
		} else if slices.Contains(plainNeedsOf(f.Body), f.Lam) {
			c["kept, makes itself"]++
		}
	}
	for _, lam := range plainNeedsOf(madeByGone...) {
		if slices.Contains(kept, lam) {
			c["kept, made by what is gone too"]++
		} else {
			c["gone, made by what is gone"]++
		}
	}
	for _, n := range progNodes(&p) {
		left := 0
		for _, lam := range n.Cases {
			if slices.Contains(kept, lam) {
				left++
			}
		}
		switch {
		case left == len(n.Cases):
		case left == 0:
			c["no case left"]++
		default:
			c["fewer cases"]++
		}
	}
}

func (c pruneCounts) atLeast(t *testing.T, least map[string]int) {
	t.Helper()
	for what, n := range least {
		if c[what] < n {
			t.Error("too few", what, c)
		}
	}
}
