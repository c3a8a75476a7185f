package tests

import (
	"math/rand"
	"slices"
	"strconv"
	"testing"

	"loop.example/g00187/impl"
)

// plainUsesAt are the numbers of the free TmVars of this name in a right term: those from which no binder is met on the way outwards.
func plainUsesAt(nodes []plainNode, s string) []int {
	var uses []int
	for i, n := range nodes {
		if n.t.K != impl.TmVar || n.t.S != s {
			continue
		}
		if at, _ := binderOf(nodes, i); at < 0 {
			uses = append(uses, i)
		}
	}
	return uses
}

// plainUses is what UsesOf must answer of a right term, written anew.
func plainUses(t impl.Term, s string) int { return len(plainUsesAt(plainNodesIn(&t), s)) }

// plainPutFor is what PutFor must answer of two right terms, written anew, and why it refuses: nothing, "bound" or "size".
func plainPutFor(t impl.Term, s string, v impl.Term) (impl.Term, string) {
	whole, free := evenTerm(t), plainFree(v)
	nodes := plainNodesIn(&whole)
	uses := plainUsesAt(nodes, s)
	for _, i := range uses {
		for n := nodes[i]; n.above >= 0; n = nodes[n.above] {
			outer := *nodes[n.above].t
			if bindsIn(outer, n.part) && (slices.Contains(free, outer.S) || slices.Contains(free, outer.Z)) {
				return impl.Term{}, "bound"
			}
		}
	}
	for _, i := range uses {
		*nodes[i].t = evenTerm(v)
	}
	if plainNodes(whole) > impl.MaxNodes || plainDepth(whole) > impl.MaxNest {
		return impl.Term{}, "size"
	}
	return whole, ""
}

// putTo fails when PutFor does not tell this term, or when what else is told of it does not fit.
func putTo(t *testing.T, term impl.Term, s string, v, want impl.Term) {
	t.Helper()
	got, ok := impl.PutFor(term, s, v)
	if !ok || !equalTerms(got, want) {
		t.Errorf("%s: %s for %s: %v and %q, not %q", plainTermText(term), plainTermText(v), s, ok, impl.TermText(got), plainTermText(want))
	}
	uses := impl.UsesOf(term, s)
	if nodes := plainNodes(term) + uses*(plainNodes(v)-1); impl.NodesOf(want) != nodes {
		t.Errorf("%s: %s for %s: %d nodes, not %d", plainTermText(term), plainTermText(v), s, impl.NodesOf(want), nodes)
	}
	if impl.UsesOf(want, s) != uses*impl.UsesOf(v, s) {
		t.Errorf("%s: %s for %s: %d uses in %s", plainTermText(term), plainTermText(v), s, impl.UsesOf(want, s), plainTermText(want))
	}
	for _, name := range slices.Concat(impl.FreeOf(term), impl.FreeOf(v), []string{s}) {
		uses := plainUses(term, name) + uses*plainUses(v, name)
		if name == s {
			uses = plainUses(term, s) * plainUses(v, s)
		}
		if impl.UsesOf(want, name) != uses {
			t.Errorf("%s: %s for %s: %d uses of %s, not %d", plainTermText(term), plainTermText(v), s, impl.UsesOf(want, name), name, uses)
		}
	}
}

// notPutFor fails when PutFor tells anything.
func notPutFor(t *testing.T, why string, term impl.Term, s string, v impl.Term) {
	t.Helper()
	if got, ok := impl.PutFor(term, s, v); ok || !zeroTerm(got) {
		t.Errorf("%s: %v and %v", why, ok, got)
	}
}

// putText fails when PutFor of these texts does not tell this one; where nothing is wanted, it must refuse.
func putText(t *testing.T, text, s, v, want string) {
	t.Helper()
	term, is := parsedTerm(t, text), parsedTerm(t, v)
	own, why := plainPutFor(term, s, is)
	if want == "" {
		if why == "" {
			t.Errorf("the test's own: %s: %s for %s: %s", text, v, s, plainTermText(own))
		}
		notPutFor(t, text+": "+v+" for "+s, term, s, is)
		return
	}
	if why != "" || plainTermText(own) != want {
		t.Errorf("the test's own: %s: %s for %s: %q, not %s", text, v, s, why, want)
	}
	putTo(t, term, s, is, parsedTerm(t, want))
}

// asPlainPut holds PutFor against the test's own, and tells why it refuses.
func asPlainPut(t *testing.T, term impl.Term, s string, v impl.Term) string {
	t.Helper()
	want, why := plainPutFor(term, s, v)
	if why == "" {
		putTo(t, term, s, v, want)
	} else {
		notPutFor(t, plainTermText(term)+": "+plainTermText(v)+" for "+s, term, s, v)
	}
	return why
}

// plainBeta is what Beta must answer of a ready term, written anew, and what was done: the form and how many uses, as "let 1"; "deep", where that would be too deep; nothing, where there is none. A name has one binder there, so its uses are all TmVars that have it.
func plainBeta(t impl.Term) (impl.Term, string) {
	whole := evenTerm(t)
	nodes := plainNodesIn(&whole)
	for _, n := range nodes {
		form, s, is, in := "let ", n.t.S, n.t, n.t
		switch {
		case n.t.K == impl.TmLet:
			is, in = &n.t.A[0], &n.t.A[1]
		case n.t.K == impl.TmApp && n.t.A[0].K == impl.TmFn:
			form, s, is, in = "app ", n.t.A[0].S, &n.t.A[1], &n.t.A[0].A[0]
		default:
			continue
		}
		var uses []*impl.Term
		for _, other := range nodes {
			if other.t.K == impl.TmVar && other.t.S == s {
				uses = append(uses, other.t)
			}
		}
		if !plainPure(*is) || len(uses) > 1 {
			continue
		}
		for _, use := range uses {
			*use = *is
		}
		*n.t = *in
		if plainDepth(whole) > impl.MaxNest {
			return evenTerm(t), "deep"
		}
		return whole, form + strconv.Itoa(len(uses))
	}
	return whole, ""
}

// betaTo fails when Beta does not tell this; or when the type, the end or anything else that follows is another.
func betaTo(t *testing.T, term, want impl.Term, done bool) {
	t.Helper()
	got, ok := impl.Beta(term)
	if ok != done || !equalTerms(got, want) {
		t.Errorf("%s: %v and %q, not %v and %q", plainTermText(term), ok, impl.TermText(got), done, plainTermText(want))
	}
	fitsBeta(t, term, want)
	if less := plainNodes(term) - plainNodes(want); done && less < 2 || !done && less != 0 {
		t.Errorf("%s: %d nodes less: %s", plainTermText(term), less, plainTermText(want))
	}
}

// fitsBeta fails when what comes is not ready, bigger, or of another type.
func fitsBeta(t *testing.T, term, want impl.Term) {
	t.Helper()
	if !impl.TermOk(want) || !plainReady(want) || plainNodes(want) > plainNodes(term) {
		t.Errorf("%s: it is not ready, or bigger: %s", plainTermText(term), plainTermText(want))
	}
	if ty, code := plainCheck(term); code == impl.CheckGood {
		checkedTerm(t, want, code, ty)
	}
}

// endsBeta fails when, with this fuel, one does not end as the other does; it tells how the first ends.
func endsBeta(t *testing.T, term, want impl.Term, fuel int) impl.Outcome {
	t.Helper()
	before, after := impl.Run(term, fuel), impl.Run(want, fuel)
	if before.End == 0 || after.End == 0 || !impl.SameEnd(before, after) {
		t.Errorf("%s: ends with %v, not %v: %s", plainTermText(term), after, before, plainTermText(want))
	}
	return before
}

// betaSteps fails when Beta of the first text does not tell the second one, of that the third, and so on, and of the last one itself and false; or BetaAll of any of them does not tell the last one.
func betaSteps(t *testing.T, texts ...string) {
	t.Helper()
	last := parsedTerm(t, texts[len(texts)-1])
	for i, text := range texts {
		term, want := parsedTerm(t, text), last
		if i+1 < len(texts) {
			want = parsedTerm(t, texts[i+1])
		}
		if own, _ := plainBeta(term); !equalTerms(own, want) || !plainReady(term) {
			t.Errorf("the test's own: %s: %s, not %s", text, plainTermText(own), plainTermText(want))
		}
		betaTo(t, term, want, i+1 < len(texts))
		if got := impl.BetaAll(term); !equalTerms(got, last) {
			t.Errorf("%s: BetaAll is %q, not %q", text, impl.TermText(got), plainTermText(last))
		}
		if _, code := plainCheck(term); code == impl.CheckGood {
			endsBeta(t, term, want, impl.MaxFuel)
			endsBeta(t, term, last, impl.MaxFuel)
		}
	}
}

// noBeta fails when a ready term has anything that may be put in.
func noBeta(t *testing.T, text string) {
	t.Helper()
	betaSteps(t, text)
}

// asPlainBeta holds Beta against the test's own, again and again, and BetaAll against what comes at last; it tells that, and how often each thing was done.
func asPlainBeta(t *testing.T, term impl.Term) (impl.Term, map[string]int) {
	t.Helper()
	done := map[string]int{}
	last := term
	for more := true; more; {
		next, what := plainBeta(last)
		done[what]++
		more = what != "" && what != "deep"
		betaTo(t, last, next, more)
		last = next
	}
	if got := impl.BetaAll(term); !equalTerms(got, last) {
		t.Errorf("%s: BetaAll is %q, not %q", plainTermText(term), impl.TermText(got), plainTermText(last))
	}
	fitsBeta(t, term, last)
	return last, done
}

// notBeta fails when anything but the fixed answer is told of what is not ready.
func notBeta(t *testing.T, why string, term impl.Term) {
	t.Helper()
	if got, ok := impl.Beta(term); ok || !zeroTerm(got) {
		t.Errorf("%s: Beta: %v and %v", why, ok, got)
	}
	if got := impl.BetaAll(term); !impl.SameTerm(got, term) {
		t.Errorf("%s: BetaAll is another one", why)
	}
}

// drawnOut is a ready term with one of its Pure terms within under a new name, around which it stands by a let or by a call; false, where that can't be done there.
func drawnOut(r *rand.Rand, t impl.Term, s string) (impl.Term, bool) {
	whole := evenTerm(t)
	nodes := plainNodesIn(&whole)
	i := r.Intn(len(nodes))
	is := evenTerm(*nodes[i].t)
	if !plainPure(is) || ofFix(nodes, i) {
		return t, false
	}
	at := i
	for range r.Intn(6) {
		n := nodes[at]
		if n.above < 0 {
			break
		}
		outer := *nodes[n.above].t
		free := plainFree(is)
		if bindsIn(outer, n.part) && (slices.Contains(free, outer.S) || slices.Contains(free, outer.Z)) {
			break
		}
		at = n.above
	}
	if ofFix(nodes, at) {
		return t, false
	}
	*nodes[i].t = tmVar(s)
	in := *nodes[at].t
	*nodes[at].t = tmLet(s, 0, is, in)
	ty := map[int]impl.Ty{impl.TmNum: tyInt, impl.TmBool: tyBool, impl.TmNil: tyList(is.T)}[is.K]
	if ty.K != 0 && r.Intn(2) == 0 {
		*nodes[at].t = tmOf(impl.TmApp, tmFn(s, ty, in), is)
	}
	if !impl.TermOk(whole) {
		return t, false
	}
	return whole, true
}

// ofFix tells whether the node of this number is the function of a TmFix.
func ofFix(nodes []plainNode, i int) bool {
	n := nodes[i]
	return n.above >= 0 && n.part == 0 && nodes[n.above].t.K == impl.TmFix
}

// betaTerms are ready terms with much to put in, found by chance: such with a type and such without.
func betaTerms(n int) []impl.Term {
	r := rand.New(rand.NewSource(18))
	var all []impl.Term
	for _, t := range append(flowTerms(n), knots(n)...) {
		for k := range r.Intn(8) {
			t, _ = drawnOut(r, t, "q"+strconv.Itoa(k))
		}
		all = append(all, t)
	}
	return all
}

func randFrom(seed int) *rand.Rand { return rand.New(rand.NewSource(int64(seed))) }
