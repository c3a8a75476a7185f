package tests

import (
	"slices"
	"strconv"
	"strings"
	"testing"

	"loop.example/g00187/impl"
)

// unliked fails when Unlike of the text does not tell this, or what the others tell of both does not fit.
func unliked(t *testing.T, text string, want string) {
	t.Helper()
	term := parsedTerm(t, text)
	if own := plainTermText(plainUnlike(term)); own != want {
		t.Errorf("the test's own: %s: %s, not %s", text, own, want)
	}
	unlikedTerm(t, term, parsedTerm(t, want))
}

func unlikedTerm(t *testing.T, term, want impl.Term) {
	t.Helper()
	got, ok := impl.Unlike(term)
	if !ok || !equalTerms(got, want) {
		t.Errorf("%s: %v and %q, not %q", plainTermText(term), ok, impl.TermText(got), plainTermText(want))
	}
	fitting(t, term, got)
}

// asPlainUnlike holds Unlike against the test's own.
func asPlainUnlike(t *testing.T, term impl.Term) impl.Term {
	t.Helper()
	want := plainUnlike(term)
	unlikedTerm(t, term, want)
	return want
}

// fitting fails when what is told of a term and of the same one with other names does not fit together.
func fitting(t *testing.T, term, other impl.Term) {
	t.Helper()
	text := plainTermText(term)
	if bare(term) != bare(other) {
		t.Errorf("%s: more than names is another: %s", text, plainTermText(other))
	}
	if nameless(term) != nameless(other) {
		t.Errorf("%s: a name of another binder: %s", text, plainTermText(other))
	}
	binders, others := impl.Binders(term), impl.Binders(other)
	if !slices.Equal(binders, bindersInText(text)) {
		t.Errorf("%s: Binders are %v", text, binders)
	}
	if !slices.Equal(others, countedUp(len(binders))) {
		t.Errorf("%s: Binders with other names are %v", text, others)
	}
	if !impl.AllUnlike(other) || impl.AllUnlike(term) != noneTwice(binders) {
		t.Errorf("%s: AllUnlike is %v, with other names %v", text, impl.AllUnlike(term), impl.AllUnlike(other))
	}
	if impl.NodesOf(other) != plainNodes(term) || impl.Lambdas(other) != impl.Lambdas(term) || len(impl.FreeOf(other)) > 0 {
		t.Errorf("%s: other nodes, functions or free names: %s", text, plainTermText(other))
	}
}

// notUnliked fails when Unlike of a term tells anything.
func notUnliked(t *testing.T, why string, term impl.Term) {
	t.Helper()
	if got, ok := impl.Unlike(term); ok || !zeroTerm(got) {
		t.Errorf("%s: %v and %v", why, ok, got)
	}
}

// runsTheSame fails when both do not have the same type, or do not run the same with this fuel; it tells how they end.
func runsTheSame(t *testing.T, term, other impl.Term, fuel int) impl.Outcome {
	t.Helper()
	end, steps := impl.Run(term, fuel), impl.Steps(term, fuel)
	if got := impl.Run(other, fuel); got != end || end.End == 0 {
		t.Errorf("%s: with %d: %v, not %v: %s", plainTermText(term), fuel, got, end, plainTermText(other))
	}
	if got := impl.Steps(other, fuel); got != steps {
		t.Errorf("%s: with %d: %d steps, not %d: %s", plainTermText(term), fuel, got, steps, plainTermText(other))
	}
	want, code := impl.TypeOf(term)
	if ty, c := impl.TypeOf(other); c != code || impl.TyText(ty) != impl.TyText(want) {
		t.Errorf("%s: the type %s and %d, not %s and %d", plainTermText(term), impl.TyText(ty), c, impl.TyText(want), code)
	}
	return end
}

// countedUp are the names a1, a2 and so on.
func countedUp(n int) []string {
	var names []string
	for i := range n {
		names = append(names, "a"+strconv.Itoa(i+1))
	}
	return names
}

func noneTwice(names []string) bool {
	for i, s := range names {
		if slices.Contains(names[:i], s) {
			return false
		}
	}
	return true
}

// plainNode is a term within, the number of the term around it (-1: none), and which of its parts it is.
type plainNode struct {
	t           *impl.Term
	above, part int
}

// plainNodesIn are all terms within, from the front, found without a call of itself: those that wait stand in a list, the next one last.
func plainNodesIn(t *impl.Term) []plainNode {
	var nodes []plainNode
	for waits := []plainNode{{t, -1, 0}}; len(waits) > 0; {
		n := waits[len(waits)-1]
		waits = waits[:len(waits)-1]
		for i := len(n.t.A) - 1; i >= 0; i-- {
			waits = append(waits, plainNode{&n.t.A[i], len(nodes), i})
		}
		nodes = append(nodes, n)
	}
	return nodes
}

// bindsIn tells whether a term binds its names in this part.
func bindsIn(t impl.Term, part int) bool {
	where := map[int]string{impl.TmFn: "0", impl.TmLet: "1", impl.TmFix: "01", impl.TmCase: "2", impl.TmTry: "1"}[t.K]
	return strings.Contains(where, strconv.Itoa(part))
}

// plainUnlike is what Unlike must answer of a right term without free names, written anew: from each TmVar it looks outwards, through the old names, and writes all new ones at last.
func plainUnlike(t impl.Term) impl.Term {
	whole := evenTerm(t)
	nodes := plainNodesIn(&whole)
	counted := countedUp(2 * len(nodes))
	named := make([][2]string, len(nodes))
	for i, n := range nodes {
		if n.t.K == impl.TmVar {
			continue
		}
		if n.t.S != "" {
			named[i][0], counted = counted[0], counted[1:]
		}
		if n.t.Z != "" {
			named[i][1], counted = counted[0], counted[1:]
		}
	}
	for i, n := range nodes {
		if n.t.K == impl.TmVar {
			at, z := binderOf(nodes, i)
			named[i][0] = named[at][z]
		}
	}
	for i, n := range nodes {
		n.t.S, n.t.Z = named[i][0], named[i][1]
	}
	return whole
}

// binderOf is the number of the term that binds the TmVar of this number, and whether by its S, 0, or its Z, 1; -1, where none does.
func binderOf(nodes []plainNode, i int) (int, int) {
	name := nodes[i].t.S
	for n := nodes[i]; n.above >= 0; n = nodes[n.above] {
		outer := *nodes[n.above].t
		switch {
		case bindsIn(outer, n.part) && outer.S == name:
			return n.above, 0
		case bindsIn(outer, n.part) && outer.Z == name:
			return n.above, 1
		}
	}
	return -1, 0
}

// bare is the text of t, all names alike: what is told of a term but its names.
func bare(t impl.Term) string {
	whole := evenTerm(t)
	for _, n := range plainNodesIn(&whole) {
		n.t.S, n.t.Z = "", ""
	}
	return plainTermText(whole)
}

// nameless tells of each TmVar, from the front, by which term it is bound; of a free one its name.
func nameless(t impl.Term) string {
	var told []string
	nodes := plainNodesIn(&t)
	for i, n := range nodes {
		if n.t.K != impl.TmVar {
			continue
		}
		if at, z := binderOf(nodes, i); at >= 0 {
			told = append(told, strconv.Itoa(at)+"SZ"[z:z+1])
		} else {
			told = append(told, n.t.S)
		}
	}
	return strings.Join(told, " ")
}

// bindersInText are the names of the binders, found by the tokens of a term's text alone.
func bindersInText(text string) []string {
	var names []string
	tokens := strings.Fields(text)
	for i := 0; i < len(tokens); i++ {
		switch tokens[i] {
		case "v", "n", "op":
			i++
		case "fn", "let", "fix", "try":
			names = append(names, tokens[i+1])
			i++
		case "case":
			names = append(names, tokens[i+1], tokens[i+2])
			i += 2
		}
	}
	return names
}

// plainLambdas are all TmFns within, from the front.
func plainLambdas(t impl.Term) []impl.Term {
	var all []impl.Term
	for _, n := range plainNodesIn(&t) {
		if n.t.K == impl.TmFn {
			all = append(all, *n.t)
		}
	}
	return all
}

// binderTexts are texts of each kind of binder, of these names, with a hole for each part; a TmCase has both names in either order.
func binderTexts(s, z string) []string {
	return []string{
		"fn " + s + " i #", "let " + s + " 0 # #", "let " + s + " 2 # #", "fix " + s + " 0 i fn " + z + " b # #", "fix " + s + " 1 v0 fn " + s + " b # #",
		"case " + s + " " + z + " # # #", "case " + z + " " + s + " # # #", "try " + s + " # #",
	}
}

// filledAt is a text whose hole of this number has fill; the others have rest.
func filledAt(text string, hole int, fill, rest string) string {
	var fills []string
	for i := range strings.Count(text, "#") {
		if i == hole {
			fills = append(fills, fill)
		} else {
			fills = append(fills, rest)
		}
	}
	return filled(text, fills...)
}

// chain has so many binders around an end, each within the one ahead of it; their names come round.
func chain(names []string, n int, end impl.Term) impl.Term {
	for i := range n {
		end = tmFn(names[i%len(names)], tyInt, end)
	}
	return end
}

// mostBinders has 150 nodes, 24 of them deep, and as many binders as such a term can have, 146: only a term with several parts keeps it from being deeper, and one with three parts that binds two names costs the least.
func mostBinders(names ...string) impl.Term {
	end := func(i int) impl.Term { return tmVar(names[i%len(names)]) }
	three := func(i int) impl.Term {
		return tmCase(names[0], "q", chain(names, 21, end(i)), chain(names, 21, end(i+1)), chain(names, 21, end(i+2)))
	}
	return tmCase("q", names[0], three(0), three(1), chain(names, 14, tmVar("q")))
}

// deepestLets is 24 deep and has 23 names, each of which stands for the one around it.
func deepestLets(names ...string) impl.Term {
	whole := tmVar(names[0])
	for i := range 23 {
		is := tmNum(i)
		if i < 22 {
			is = tmVar(names[(i+1)%len(names)])
		}
		whole = tmLet(names[i%len(names)], 0, is, whole)
	}
	return whole
}

// letsOfNodes has this many nodes, and is as flat as can be: names that stand for each other, and for a number. One with an odd number of nodes has nothing but these.
func letsOfNodes(nodes int, name func() string, end impl.Term) impl.Term {
	switch nodes {
	case 1:
		return end
	case 2:
		return tmRaise(tyInt, end)
	}
	first, s := (nodes-1)/2|1, name()
	is := letsOfNodes(first, name, end)
	return tmLet(s, 0, is, letsOfNodes(nodes-1-first, name, tmVar(s)))
}

// nameTerms are right terms without free names, found by chance: such with a type, with loops, with type variables, copied ones, and such that never had a type.
func nameTerms(n int) []impl.Term {
	all := append(runTerms(n), polyPrograms(n/2)...)
	for _, t := range polyPrograms(n / 2) {
		if mono, code := impl.Mono(t); code == impl.MonoGood {
			all = append(all, mono)
		}
	}
	return all
}
