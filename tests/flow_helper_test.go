package tests

import (
	"math/rand"
	"slices"
	"strconv"
	"strings"
	"testing"

	"loop.example/g00187/impl"
)

// plainEdge is an inclusion: what the list of the place from has is in that of the place to; by the rule "own" it is the thing itself. A place is a node's number, or, behind these, a binder's.
type plainEdge struct {
	rule     string
	from, to int
}

// plainRules are all inclusions of the chapter, by their names.
func plainRules() []string {
	return []string{"own", "var", "app argument", "app result", "let is", "let in", "fix is", "fix in", "if second", "if third", "case second", "case third", "case S", "case Z", "fst", "snd", "try first", "try second"}
}

// plainWeb is a ready term, its parts by their numbers, its binders by their names.
type plainWeb struct {
	nodes  []plainNode
	parts  [][]int
	binder map[string]int
	places int
}

func webbed(t impl.Term) plainWeb {
	w := plainWeb{nodes: plainNodesIn(&t), binder: map[string]int{}}
	w.parts = make([][]int, len(w.nodes))
	for i, n := range w.nodes {
		if n.above >= 0 {
			w.parts[n.above] = append(w.parts[n.above], i)
		}
	}
	names := bindersInText(plainTermText(t))
	for i, s := range names {
		w.binder[s] = len(w.nodes) + i
	}
	w.places = len(w.nodes) + len(names)
	return w
}

// things are the numbers of the nodes that may stand in a list.
func (w plainWeb) things() []int {
	var all []int
	for i, n := range w.nodes {
		if slices.Contains([]int{impl.TmFn, impl.TmPair, impl.TmCons}, n.t.K) {
			all = append(all, i)
		}
	}
	return all
}

// fixed are the inclusions that are asked for whatever the lists have.
func (w plainWeb) fixed() []plainEdge {
	var all []plainEdge
	for i, n := range w.nodes {
		ask := func(rule string, from, to int) { all = append(all, plainEdge{rule, from, to}) }
		switch parts := w.parts[i]; n.t.K {
		case impl.TmFn, impl.TmPair, impl.TmCons:
			ask("own", i, i)
		case impl.TmVar:
			ask("var", w.binder[n.t.S], i)
		case impl.TmLet:
			ask("let is", parts[0], w.binder[n.t.S])
			ask("let in", parts[1], i)
		case impl.TmFix:
			ask("fix is", parts[0], w.binder[n.t.S])
			ask("fix in", parts[1], i)
		case impl.TmIf:
			ask("if second", parts[1], i)
			ask("if third", parts[2], i)
		case impl.TmCase:
			ask("case second", parts[1], i)
			ask("case third", parts[2], i)
		case impl.TmTry:
			ask("try first", parts[0], i)
			ask("try second", parts[1], i)
		}
	}
	return all
}

// met are the inclusions that are asked for where this place's list has this thing.
func (w plainWeb) met(place, thing int) []plainEdge {
	if place == 0 || place >= len(w.nodes) || w.nodes[place].part != 0 {
		return nil
	}
	outer, within := w.nodes[place].above, w.parts[thing]
	t, is := w.nodes[outer].t, w.nodes[thing].t
	switch [2]int{t.K, is.K} {
	case [2]int{impl.TmApp, impl.TmFn}:
		return []plainEdge{{"app argument", w.parts[outer][1], w.binder[is.S]}, {"app result", within[0], outer}}
	case [2]int{impl.TmCase, impl.TmCons}:
		return []plainEdge{{"case S", within[0], w.binder[t.S]}, {"case Z", within[1], w.binder[t.Z]}}
	case [2]int{impl.TmFst, impl.TmPair}:
		return []plainEdge{{"fst", within[0], outer}}
	case [2]int{impl.TmSnd, impl.TmPair}:
		return []plainEdge{{"snd", within[1], outer}}
	}
	return nil
}

// plainFact is a thing in a place's list.
type plainFact struct{ place, thing int }

// plainFlow is what FlowOf must answer of a ready term, written anew: each thing that comes to a list goes on by itself, along what was asked for by then.
func plainFlow(t impl.Term) impl.Flow {
	return webbed(t).least(nil, func(plainEdge) bool { return false })
}

// least is the least flow that has these facts and keeps all inclusions but those that are left out.
func (w plainWeb) least(facts []plainFact, left func(plainEdge) bool) impl.Flow {
	has := make([]map[int]bool, w.places)
	for i := range has {
		has[i] = map[int]bool{}
	}
	ways := make([][]int, w.places)
	var waits []plainFact
	put := func(place, thing int) {
		if !has[place][thing] {
			has[place][thing] = true
			waits = append(waits, plainFact{place, thing})
		}
	}
	ask := func(edges []plainEdge) {
		for _, e := range edges {
			switch {
			case left(e):
			case e.rule == "own":
				put(e.to, e.to)
			default:
				ways[e.from] = append(ways[e.from], e.to)
				for thing := range has[e.from] {
					put(e.to, thing)
				}
			}
		}
	}
	ask(w.fixed())
	for _, f := range facts {
		put(f.place, f.thing)
	}
	for len(waits) > 0 {
		f := waits[len(waits)-1]
		waits = waits[:len(waits)-1]
		for _, to := range ways[f.place] {
			put(to, f.thing)
		}
		ask(w.met(f.place, f.thing))
	}
	return w.flowOf(has)
}

func (w plainWeb) flowOf(has []map[int]bool) impl.Flow {
	lists := make([][]int, len(has))
	for i := range has {
		for thing := range has[i] {
			lists[i] = append(lists[i], thing)
		}
		slices.Sort(lists[i])
	}
	return w.parted(lists)
}

// parted is a flow of these lists, one for each place.
func (w plainWeb) parted(lists [][]int) impl.Flow {
	return impl.Flow{Of: lists[:len(w.nodes):len(w.nodes)], Vars: lists[len(w.nodes):]}
}

func flowLists(f impl.Flow) [][]int { return slices.Concat(f.Of, f.Vars) }

// copyFlow is f in lists of its own.
func copyFlow(f impl.Flow) impl.Flow {
	var more impl.Flow
	for _, list := range f.Of {
		more.Of = append(more.Of, slices.Clone(list))
	}
	for _, list := range f.Vars {
		more.Vars = append(more.Vars, slices.Clone(list))
	}
	return more
}

// listAt is where the list of this place stands in a flow.
func listAt(f impl.Flow, place int) *[]int {
	if place < len(f.Of) {
		return &f.Of[place]
	}
	return &f.Vars[place-len(f.Of)]
}

// changedAt is f, the list of this place being another.
func changedAt(f impl.Flow, place int, list ...int) impl.Flow {
	more := copyFlow(f)
	*listAt(more, place) = list
	return more
}

func factsOf(f impl.Flow) []plainFact {
	var all []plainFact
	for place, list := range flowLists(f) {
		for _, thing := range list {
			all = append(all, plainFact{place, thing})
		}
	}
	return all
}

func sameFlow(a, b impl.Flow) bool {
	return slices.EqualFunc(a.Of, b.Of, slices.Equal) && slices.EqualFunc(a.Vars, b.Vars, slices.Equal)
}

func zeroFlow(f impl.Flow) bool { return len(f.Of) == 0 && len(f.Vars) == 0 }

// broken are the inclusions that do not hold in a flow of the right form.
func (w plainWeb) broken(f impl.Flow) []plainEdge {
	lists := flowLists(f)
	asked := w.fixed()
	for _, fact := range factsOf(f) {
		asked = append(asked, w.met(fact.place, fact.thing)...)
	}
	var all []plainEdge
	for _, e := range asked {
		has := lists[e.from]
		if e.rule == "own" {
			has = []int{e.to}
		}
		if slices.ContainsFunc(has, func(thing int) bool { return !slices.Contains(lists[e.to], thing) }) {
			all = append(all, e)
		}
	}
	return all
}

// formed tells whether a flow has as many lists as places, each an ascending one of things.
func (w plainWeb) formed(f impl.Flow) bool {
	things := w.things()
	for _, list := range flowLists(f) {
		for i, thing := range list {
			if !slices.Contains(things, thing) || i > 0 && list[i-1] >= thing {
				return false
			}
		}
	}
	return len(f.Of) == len(w.nodes) && len(f.Of)+len(f.Vars) == w.places
}

// plainFlowOk is what FlowOk must answer of a ready term.
func plainFlowOk(t impl.Term, f impl.Flow) bool {
	w := webbed(t)
	return w.formed(f) && len(w.broken(f)) == 0
}

// plainReady is whether a right term is ready.
func plainReady(t impl.Term) bool {
	return plainIsMono(t) && noneTwice(bindersInText(plainTermText(t))) && len(plainFree(t)) == 0
}

// callees is what Callees must answer where the flow is right.
func (w plainWeb) callees(f impl.Flow, node int) []int {
	if w.nodes[node].t.K != impl.TmApp {
		return nil
	}
	var fns []int
	for _, thing := range f.Of[node+1] {
		if w.nodes[thing].t.K == impl.TmFn {
			fns = append(fns, thing)
		}
	}
	return fns
}

// plainTrace is what Trace must answer of a ready term, and how much of the fuel it takes.
func plainTrace(t impl.Term, fuel int) ([][2]int, int) {
	// Each node's parts lie at a place of their own, by which it is known again.
	whole := evenTerm(t)
	numbers := map[*impl.Term]int{}
	for i, n := range plainNodesIn(&whole) {
		if len(n.t.A) > 0 {
			numbers[&n.t.A[0]] = i
		}
	}
	var calls [][2]int
	m := plainMachine{t: whole, met: func(call, fn *impl.Term) {
		pair := [2]int{numbers[call], numbers[fn]}
		if !slices.Contains(calls, pair) {
			calls = append(calls, pair)
		}
	}}
	_, steps := m.run(fuel)
	return calls, steps
}

// toldFlow reads a flow of a term: places with what their lists have, as in "0=1,4 x=1"; a place is a node's number or a binder's name. The others have nothing.
func toldFlow(t *testing.T, term impl.Term, told string) impl.Flow {
	t.Helper()
	w := webbed(term)
	lists := make([][]int, w.places)
	for _, token := range strings.Fields(told) {
		place, list, ok := strings.Cut(token, "=")
		at, bound := w.binder[place]
		if !bound {
			at = toldNumber(t, place)
		}
		if !ok || !bound && at >= len(w.nodes) {
			t.Fatalf("the test's own: %q", told)
		}
		for _, thing := range strings.Split(list, ",") {
			lists[at] = append(lists[at], toldNumber(t, thing))
		}
	}
	return w.parted(lists)
}

func toldNumber(t *testing.T, digits string) int {
	t.Helper()
	n, err := strconv.Atoi(digits)
	if err != nil {
		t.Fatal(err)
	}
	return n
}

// flowText tells a flow so.
func flowText(term impl.Term, f impl.Flow) string {
	names := bindersInText(plainTermText(term))
	var told []string
	for place, list := range flowLists(f) {
		var things []string
		for _, thing := range list {
			things = append(things, strconv.Itoa(thing))
		}
		name := strconv.Itoa(place)
		if place >= len(f.Of) && place-len(f.Of) < len(names) {
			name = names[place-len(f.Of)]
		}
		if len(things) > 0 {
			told = append(told, name+"="+strings.Join(things, ","))
		}
	}
	return strings.Join(told, " ")
}

// flowed fails when FlowOf the text is not this.
func flowed(t *testing.T, text string, told string) {
	t.Helper()
	term := parsedTerm(t, text)
	want := toldFlow(t, term, told)
	if own := plainFlow(term); !plainReady(term) || !sameFlow(own, want) {
		t.Errorf("the test's own: %s: %s, not %s", text, flowText(term, own), told)
	}
	flowedTerm(t, term, want)
}

func flowedTerm(t *testing.T, term impl.Term, want impl.Flow) {
	t.Helper()
	got := impl.FlowOf(term)
	if !sameFlow(got, want) {
		t.Errorf("%s: %s, not %s", plainTermText(term), flowText(term, got), flowText(term, want))
	}
	if len(got.Of) != plainNodes(term) || len(got.Vars) != len(impl.Binders(term)) || !impl.FlowOk(term, got) {
		t.Errorf("%s: not FlowOk: %s", plainTermText(term), flowText(term, got))
	}
}

// asPlainFlow holds FlowOf against the test's own.
func asPlainFlow(t *testing.T, term impl.Term) impl.Flow {
	t.Helper()
	want := plainFlow(term)
	flowedTerm(t, term, want)
	return want
}

// flowIs fails when FlowOk of a ready term, or the test's own, is not this.
func flowIs(t *testing.T, why string, term impl.Term, f impl.Flow, want bool) {
	t.Helper()
	if plainFlowOk(term, f) != want {
		t.Errorf("the test's own: %s: %s: %s", why, plainTermText(term), flowText(term, f))
	}
	if impl.FlowOk(term, f) != want {
		t.Errorf("%s: %s: FlowOk is not %v: %s", why, plainTermText(term), want, flowText(term, f))
	}
}

// calleesText tells what each call of a term may call by a flow, as toldFlow reads it.
func calleesText(term impl.Term, f impl.Flow) string {
	var told []string
	for node := range plainNodes(term) {
		var fns []string
		for _, fn := range impl.Callees(term, f, node) {
			fns = append(fns, strconv.Itoa(fn))
		}
		if len(fns) > 0 {
			told = append(told, strconv.Itoa(node)+"="+strings.Join(fns, ","))
		}
	}
	return strings.Join(told, " ")
}

func traceText(calls [][2]int) string {
	var told []string
	for _, call := range calls {
		told = append(told, strconv.Itoa(call[0])+">"+strconv.Itoa(call[1]))
	}
	return strings.Join(told, " ")
}

// callCase is a text, what its calls may call, and what is called with the greatest fuel.
type callCase struct{ text, callees, trace string }

func calledAll(t *testing.T, cases []callCase) {
	t.Helper()
	for _, c := range cases {
		term := parsedTerm(t, c.text)
		f := asPlainFlow(t, term)
		if got := calleesText(term, f); got != c.callees {
			t.Errorf("%s: may call %q, not %q", c.text, got, c.callees)
		}
		if got := traceText(impl.Trace(term, impl.MaxFuel)); got != c.trace {
			t.Errorf("%s: calls %q, not %q", c.text, got, c.trace)
		}
		asPlainTrace(t, term, impl.MaxFuel)
		amongCallees(t, term, f)
	}
}

// asPlainTrace holds Trace against the test's own with this fuel.
func asPlainTrace(t *testing.T, term impl.Term, fuel int) ([][2]int, int) {
	t.Helper()
	want, steps := plainTrace(term, fuel)
	if got := impl.Trace(term, fuel); !slices.Equal(got, want) {
		t.Errorf("%s: with %d: %s, not %s", plainTermText(term), fuel, traceText(got), traceText(want))
	}
	return want, steps
}

// amongCallees fails when a call of Trace is not among Callees.
func amongCallees(t *testing.T, term impl.Term, f impl.Flow) int {
	t.Helper()
	calls := impl.Trace(term, impl.MaxFuel)
	for _, call := range calls {
		if !slices.Contains(impl.Callees(term, f, call[0]), call[1]) {
			t.Errorf("%s: %v is called, but not among Callees", plainTermText(term), call)
		}
	}
	return len(calls)
}

// groundTy is t with another type for its variables.
func groundTy(t impl.Ty) impl.Ty {
	if t.K == impl.TyVar {
		return tyInt
	}
	ground := impl.Ty{K: t.K, N: t.N}
	for _, a := range t.A {
		ground.A = append(ground.A, groundTy(a))
	}
	return ground
}

// readied is a right term without free names as a ready one: without type variables, its binders with names of their own. It runs the same.
func readied(t impl.Term) impl.Term {
	whole := evenTerm(t)
	for _, n := range plainNodesIn(&whole) {
		n.t.T, n.t.Ts = groundTy(n.t.T), nil
		if n.t.K == impl.TmLet || n.t.K == impl.TmFix {
			n.t.N = 0
		}
	}
	return plainUnlike(whole)
}

// wirer makes terms that hand functions, pairs and lists around, whatever their types; each binder has a name of its own.
type wirer struct {
	r     *rand.Rand
	count *int
	names []string
}

func (m wirer) fresh() string {
	*m.count++
	return "w" + strconv.Itoa(*m.count)
}

func (m wirer) with(names ...string) wirer {
	m.names = slices.Concat(m.names, names)
	return m
}

func (m wirer) end() impl.Term {
	if len(m.names) > 0 && m.r.Intn(5) > 0 {
		return tmVar(m.names[m.r.Intn(len(m.names))])
	}
	s := m.fresh()
	ends := []impl.Term{tmNum(m.r.Intn(5)), tmBool(m.r.Intn(2)), tmNil(tyInt), tmFn(s, tyInt, tmVar(s)), tmFn(s, tyInt, tmNum(1))}
	return ends[m.r.Intn(len(ends))]
}

func (m wirer) term(levels int) impl.Term {
	if levels <= 1 {
		return m.end()
	}
	part := func() impl.Term { return m.term(levels - 1 - m.r.Intn(2)) }
	s := m.fresh()
	in := func(names ...string) impl.Term { return m.with(names...).term(levels - 1 - m.r.Intn(2)) }
	switch m.r.Intn(18) {
	case 0, 1:
		return tmFn(s, tyInt, in(s))
	case 2, 3, 4, 5:
		return tmOf(impl.TmApp, part(), part())
	case 6, 7:
		return tmLet(s, 0, part(), in(s))
	case 8:
		x := m.fresh()
		return tmFix(s, 0, tyInt, tmFn(x, tyInt, in(s, x)), in(s))
	case 9:
		return tmOf(impl.TmIf, tmBool(m.r.Intn(2)), part(), part())
	case 10:
		return tmOf(impl.TmPair, part(), part())
	case 11:
		return tmOf(impl.TmFst, part())
	case 12:
		return tmOf(impl.TmSnd, part())
	case 13:
		return tmOf(impl.TmCons, part(), part())
	case 14, 15:
		z := m.fresh()
		return tmCase(s, z, part(), part(), in(s, z))
	case 16:
		return tmTry(s, part(), in(s))
	}
	return []impl.Term{tmOp(1+m.r.Intn(5), part(), part()), tmRaise(tyInt, part())}[m.r.Intn(2)]
}

// wiredTerms are ready terms, most of them without a type, found by chance, always the same ones.
func wiredTerms(n int) []impl.Term {
	r := rand.New(rand.NewSource(31))
	var all []impl.Term
	for len(all) < n {
		m := wirer{r: r, count: new(int)}
		if t := m.term(4 + r.Intn(9)); impl.TermOk(t) && plainNodes(t) > 8 {
			all = append(all, t)
		}
	}
	return all
}

// calledTerms have a type, and functions in pairs and lists that are called, found by chance.
func calledTerms(n int) []impl.Term {
	m := typedMaker{r: rand.New(rand.NewSource(37))}
	var all []impl.Term
	for len(all) < n {
		f := tyFun(m.ty(2), m.ty(2))
		holder := []impl.Ty{f, tyPair(f, m.ty(2)), tyPair(m.ty(2), f), tyList(f), tyList(tyPair(f, f)), tyList(tyList(f)), tyFun(tyInt, f), tyFun(f, f), tyPair(tyPair(f, f), tyList(f))}
		is := holder[m.r.Intn(len(holder))]
		inner := m.with("hold", is, 0).with("fun", f, 0)
		t := tmLet("fun", 0, m.term(f, 3), tmLet("hold", 0, m.with("fun", f, 0).term(is, 4), inner.called(f, is, 3+m.r.Intn(3))))
		if impl.TermOk(t) && plainNodes(t) > 12 {
			all = append(all, readied(t))
		}
	}
	return all
}

// called calls a function of this type, found in what is held or elsewhere.
func (m typedMaker) called(f, is impl.Ty, levels int) impl.Term {
	fun, hold := m.term(f, levels), tmVar("hold")
	none := m.term(f, 1)
	switch {
	case is.K == impl.TyPair && plainText(is.A[0]) == plainText(f):
		fun = tmOf(impl.TmFst, hold)
	case is.K == impl.TyPair && plainText(is.A[1]) == plainText(f):
		fun = tmOf(impl.TmSnd, hold)
	case is.K == impl.TyList && plainText(is.A[0]) == plainText(f):
		fun = tmCase("first", "rest", hold, none, tmCase("next", "more", tmVar("rest"), tmVar("first"), tmVar("next")))
	case is.K == impl.TyList && is.A[0].K == impl.TyPair:
		fun = tmCase("first", "rest", hold, none, tmOf(impl.TmFst+m.r.Intn(2), tmVar("first")))
	case is.K == impl.TyList && is.A[0].K == impl.TyList:
		fun = tmCase("first", "rest", hold, none, tmCase("deep", "more", tmVar("first"), none, tmVar("deep")))
	case is.K == impl.TyFun && is.A[0].K == impl.TyInt && is.A[1].K == impl.TyFun:
		fun = tmOf(impl.TmApp, hold, tmNum(2))
	case is.K == impl.TyFun && is.A[0].K == impl.TyFun:
		fun = tmOf(impl.TmApp, hold, tmVar("fun"))
	case is.K == impl.TyPair && is.A[0].K == impl.TyPair:
		fun = tmOf(impl.TmSnd, tmOf(impl.TmFst, hold))
	}
	return tmOf(impl.TmApp, fun, m.term(f.A[0], levels))
}

// flowTerms are ready terms of all sorts: such with a type and such without, with loops, copied ones.
func flowTerms(n int) []impl.Term {
	all := slices.Concat(wiredTerms(n), calledTerms(n))
	for _, t := range nameTerms(n / 2) {
		all = append(all, readied(t))
	}
	return all
}

// roomyFlow is f, each of its lists with spare room behind it that holds something.
func roomyFlow(f impl.Flow) impl.Flow {
	return impl.Flow{Of: roomyLists(f.Of), Vars: roomyLists(f.Vars)}
}

func roomyLists(lists [][]int) [][]int {
	roomy := make([][]int, len(lists), len(lists)+2)
	for i, list := range lists {
		roomy[i] = make([]int, len(list), len(list)+3)
		copy(roomy[i], list)
		copy(roomy[i][len(list):cap(roomy[i])], []int{-1, 0, 77})
	}
	room := roomy[:cap(roomy)]
	room[len(lists)], room[len(lists)+1] = []int{-1}, []int{1000}
	return roomy
}

// fullFlow copies f, its lists as long as their room.
func fullFlow(f impl.Flow) [2][][]int {
	var full [2][][]int
	for i, lists := range [][][]int{f.Of, f.Vars} {
		for _, list := range lists[:cap(lists)] {
			full[i] = append(full[i], slices.Clone(list[:cap(list)]))
		}
	}
	return full
}

// intPlaces are the places of all that a list of numbers holds, and of the room behind.
func intPlaces(list []int) []any {
	var places []any
	room := list[:cap(list)]
	for i := range room {
		places = append(places, &room[i])
	}
	return places
}

func flowPlaces(f impl.Flow) []any {
	var places []any
	for _, lists := range [][][]int{f.Of, f.Vars} {
		room := lists[:cap(lists)]
		for i := range room {
			places = append(places, &room[i])
			places = append(places, intPlaces(room[i])...)
		}
	}
	return places
}
