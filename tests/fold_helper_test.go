package tests

import (
	"math/rand"
	"slices"
	"strconv"
	"testing"

	"loop.example/g00187/impl"
)

// plainPure is what Pure must answer of a right term, written anew: nothing outside of functions is of another kind.
func plainPure(t impl.Term) bool {
	for waits := []impl.Term{t}; len(waits) > 0; {
		last := waits[len(waits)-1]
		waits = waits[:len(waits)-1]
		if last.K == 9 || last.K == 13 {
			waits = append(waits, last.A...)
		} else if !slices.Contains([]int{1, 2, 3, 4, 12}, last.K) {
			return false
		}
	}
	return true
}

// plainRule is what becomes of a term whose parts are folded, and the rule's name; no name, where it stays.
func plainRule(t impl.Term) (impl.Term, string) {
	if len(t.A) == 0 {
		return t, ""
	}
	first := t.A[0]
	switch {
	case t.K == impl.TmOp && first.K == impl.TmNum && t.A[1].K == impl.TmNum:
		// what it comes to is found by running it
		end, _ := plainRun(t, 3)
		switch n, err := strconv.Atoi(end.Text); {
		case end.End != impl.EndValue:
			return t, ""
		case err == nil:
			return tmNum(n), "op"
		}
		return tmBool(map[string]int{"t": 1}[end.Text]), "truth"
	case t.K == impl.TmIf && first.K == impl.TmBool:
		return t.A[2-first.N], "if"
	case t.K == impl.TmFst && first.K == impl.TmPair && plainPure(first.A[1]):
		return first.A[0], "fst"
	case t.K == impl.TmSnd && first.K == impl.TmPair && plainPure(first.A[0]):
		return first.A[1], "snd"
	case t.K == impl.TmCase && first.K == impl.TmNil:
		return t.A[1], "case"
	case t.K == impl.TmLet && t.N == 0 && plainPure(first) && !slices.Contains(plainFree(t.A[1]), t.S):
		return t.A[1], "let"
	case t.K == impl.TmTry && plainPure(first):
		return first, "try"
	}
	return t, ""
}

// plainFold is what Fold must answer of a right term, written anew: each node in its place, the last one first, so that parts come ahead of what they are parts of; and how often each rule was used.
func plainFold(t impl.Term) (impl.Term, map[string]int) {
	whole, used := evenTerm(t), map[string]int{}
	for _, n := range slices.Backward(plainNodesIn(&whole)) {
		made, rule := plainRule(*n.t)
		if rule != "" {
			*n.t = made
			used[rule]++
		}
	}
	return whole, used
}

// stillFolds are the rules that a term has still use for, wherever it is.
func stillFolds(t impl.Term) []string {
	var rules []string
	for _, n := range plainNodesIn(&t) {
		if _, rule := plainRule(*n.t); rule != "" {
			rules = append(rules, rule)
		}
	}
	return rules
}

// folded fails when Fold or FoldAll of the text does not tell this; or when the type or the end is another.
func folded(t *testing.T, text, want string) {
	t.Helper()
	term := parsedTerm(t, text)
	if own, _ := plainFold(term); plainTermText(own) != want {
		t.Errorf("the test's own: %s: %s, not %s", text, plainTermText(own), want)
	}
	foldedTo(t, term, parsedTerm(t, want))
	if _, code := plainCheck(term); code == impl.CheckGood {
		endsFolded(t, term, parsedTerm(t, want), 300)
	}
}

// stays fails when Fold or FoldAll of the text tells anything else.
func stays(t *testing.T, text string) {
	t.Helper()
	folded(t, text, text)
}

func foldedTo(t *testing.T, term, want impl.Term) {
	t.Helper()
	once, all := impl.Fold(term), impl.FoldAll(term)
	if !equalTerms(once, want) {
		t.Errorf("%s: Fold is %q, not %q", plainTermText(term), impl.TermText(once), plainTermText(want))
	}
	if !equalTerms(all, want) {
		t.Errorf("%s: FoldAll is %q, not %q", plainTermText(term), impl.TermText(all), plainTermText(want))
	}
	if !equalTerms(impl.Fold(once), want) || !equalTerms(impl.FoldAll(all), want) || !equalTerms(impl.FoldAll(once), want) || !equalTerms(impl.Fold(all), want) {
		t.Errorf("%s: folded again it is another one", plainTermText(term))
	}
	fitsFolded(t, term, want)
}

// fitsFolded fails when what is folded is not right, bigger, has other free names, another type, or ends otherwise.
func fitsFolded(t *testing.T, term, want impl.Term) {
	t.Helper()
	text := plainTermText(term)
	if rules := stillFolds(want); len(rules) > 0 {
		t.Errorf("%s: %v is left: %s", text, rules, plainTermText(want))
	}
	if !impl.TermOk(want) || plainNodes(want) > plainNodes(term) || plainDepth(want) > plainDepth(term) {
		t.Errorf("%s: it is not right, or bigger: %s", text, plainTermText(want))
	}
	for _, name := range plainFree(want) {
		if !slices.Contains(plainFree(term), name) {
			t.Errorf("%s: %s was not free: %s", text, name, plainTermText(want))
		}
	}
	if ty, code := plainCheck(term); code == impl.CheckGood {
		checkedTerm(t, want, code, ty)
	}
}

// endsFolded fails when, with this fuel, what is folded does not end as the term does, or with more steps; it tells how the term ends.
func endsFolded(t *testing.T, term, want impl.Term, fuel int) impl.Outcome {
	t.Helper()
	before, after := impl.Run(term, fuel), impl.Run(want, fuel)
	if before.End == 0 || after.End == 0 || !impl.SameEnd(before, after) {
		t.Errorf("%s: ends with %v, not %v: %s", plainTermText(term), after, before, plainTermText(want))
	}
	steps := impl.Steps(term, fuel)
	if more := impl.Steps(want, fuel); more > steps {
		t.Errorf("%s: %d steps, not %d: %s", plainTermText(term), more, steps, plainTermText(want))
	}
	if end := impl.Run(want, steps); before.End != impl.EndFuel && end != before {
		t.Errorf("%s: with its own steps it ends with %v, not %v: %s", plainTermText(term), end, before, plainTermText(want))
	}
	return before
}

// asPlainFold holds Fold and FoldAll against the test's own, and tells how often each rule was used.
func asPlainFold(t *testing.T, term impl.Term) (impl.Term, map[string]int) {
	t.Helper()
	want, used := plainFold(term)
	foldedTo(t, term, want)
	return want, used
}

// aroundTexts stand around a term of any type and keep its type; each # is the term. Behind each is whether nothing but the term is left of it, whatever the term is.
var aroundTexts = []struct {
	text string
	out  bool
}{
	{"if t # #", true}, {"if u # #", true}, {"if op < n 1 n 2 # #", true}, {"if op = op - n 3 n 1 op * n 2 n 2 # #", true},
	{"fst pair # n 5", true}, {"snd pair n 5 #", true}, {"fst pair # pair nil i cons t nil b", true}, {"snd pair fn q i raise i v q 0 #", true},
	{"fst pair # if t n 1 raise i n 1", true}, {"fst pair # try q n 1 n 2", true}, {"snd pair fst pair n 1 n 2 #", true},
	{"case q w nil i # #", true}, {"case q w if u cons n 1 nil i nil i # #", true},
	{"let q 0 n 1 #", true}, {"let q 0 fn w i v w 0 #", true}, {"let q 0 cons n 1 nil i let w 0 v q 0 #", true}, {"let q 0 let w 0 n 1 n 2 let w 0 v q 0 #", true},
	{"fst pair # op + n 1000000 n 1", false}, {"snd pair try q raise i n 1 v q 0 #", false}, {"let q 0 fst pair n 1 app fn w i v w 0 n 1 #", false},
	{"case q w cons n 1 nil i # #", false}, {"try q # #", false}, {"let q 0 # v q 0", false}, {"if op < op + n 1000000 n 1 n 0 # #", false},
}

// around puts one of aroundTexts around a term.
func around(t impl.Term, i int) impl.Term {
	made, ok := impl.ParseTerm(filledAll(aroundTexts[i].text, "v z.z 0"))
	if !ok {
		panic(aroundTexts[i].text)
	}
	return plainInstead(made, "z.z", func(impl.Term) impl.Term { return evenTerm(t) })
}

// filledAll is a text all holes of which have this.
func filledAll(text, fill string) string { return filledAt(text, -1, "", fill) }

// foldTerms are right terms without free names that have much to fold, found by chance: such with a type, and such that have none.
func foldTerms(n int) []impl.Term {
	r := rand.New(rand.NewSource(14))
	var all []impl.Term
	for _, t := range nameTerms(n) {
		grown := evenTerm(t)
		for range 1 + r.Intn(4) {
			if more := grownAt(r, grown); impl.TermOk(more) {
				grown = more
			}
		}
		all = append(all, grown)
	}
	return all
}

// grownAt has one of aroundTexts around one of its terms within; not around what must stay of its kind.
func grownAt(r *rand.Rand, t impl.Term) impl.Term {
	grown := evenTerm(t)
	nodes := plainNodesIn(&grown)
	n := nodes[r.Intn(len(nodes))]
	if n.above >= 0 && n.part == 0 {
		if k := nodes[n.above].t.K; k == impl.TmFix || k == impl.TmLet && nodes[n.above].t.N > 0 {
			return grown
		}
	}
	*n.t = around(*n.t, r.Intn(len(aroundTexts)))
	return grown
}

// onesAdded is the sum of so many ones, and has nodes for nothing else.
func onesAdded(ones int) impl.Term {
	if ones == 1 {
		return tmNum(1)
	}
	return tmOp(1, onesAdded(ones/2), onesAdded(ones-ones/2))
}

// listsOf are the places where the lists of t are, right or not: each list is looked at once.
func listsOf(t impl.Term) map[any]int {
	lists := map[any]int{}
	terms, types := []impl.Term{t}, []impl.Ty{}
	for len(terms) > 0 {
		at := terms[len(terms)-1]
		terms = terms[:len(terms)-1]
		types = append(types, at.T, impl.Ty{A: at.Ts})
		if len(at.A) > 0 && lists[&at.A[0]] < len(at.A) {
			lists[&at.A[0]] = len(at.A)
			terms = append(terms, at.A...)
		}
	}
	for len(types) > 0 {
		at := types[len(types)-1]
		types = types[:len(types)-1]
		if len(at.A) > 0 && lists[&at.A[0]] < len(at.A) {
			lists[&at.A[0]] = len(at.A)
			types = append(types, at.A...)
		}
	}
	return lists
}
