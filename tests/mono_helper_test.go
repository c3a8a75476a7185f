package tests

import (
	"math/rand"
	"slices"
	"strconv"
	"strings"
	"testing"

	"loop.example/g00187/impl"
)

// monoed fails when Mono and Copies of the text do not tell this.
func monoed(t *testing.T, text string, want string, copies int) {
	t.Helper()
	term := parsedTerm(t, text)
	own, code, made := plainMono(term)
	if code != impl.MonoGood || plainTermText(own) != want || made != copies {
		t.Errorf("the test's own: %s: %d, %d copies", text, code, made)
	}
	monoedTerm(t, term, parsedTerm(t, want), impl.MonoGood, copies)
	keptAll(t, term)
}

// notMonoed fails when Mono and Copies of the text do not tell this code.
func notMonoed(t *testing.T, text string, code int) {
	t.Helper()
	term := parsedTerm(t, text)
	if _, own, _ := plainMono(term); own != code {
		t.Errorf("the test's own: %s: %d, not %d", text, own, code)
	}
	monoedTerm(t, term, impl.Term{}, code, -1)
}

func monoedTerm(t *testing.T, term, want impl.Term, code, copies int) {
	t.Helper()
	got, c := impl.Mono(term)
	if c != code || !equalTerms(got, want) {
		t.Errorf("%s: %d and %q, not %d and %q", impl.TermText(term), c, impl.TermText(got), code, impl.TermText(want))
	}
	if made := impl.Copies(term); made != copies {
		t.Errorf("%s: %d copies, not %d", impl.TermText(term), made, copies)
	}
	if impl.IsMono(got) != (code == impl.MonoGood) {
		t.Errorf("%s: IsMono of what comes: %v", impl.TermText(term), impl.IsMono(got))
	}
}

// asPlainMono holds Mono and Copies against the test's own.
func asPlainMono(t *testing.T, term impl.Term) (int, int) {
	t.Helper()
	want, code, copies := plainMono(term)
	monoedTerm(t, term, want, code, copies)
	return code, copies
}

// keptAll fails when what comes of a program has type variables or another type, or ends otherwise; it tells how the program ends.
func keptAll(t *testing.T, term impl.Term) impl.Outcome {
	t.Helper()
	if !typeKept(t, term) {
		t.Errorf("%s: no type any more", plainTermText(term))
	}
	return endKept(t, term)
}

// typeKept fails when what comes of a program has another type. It has none where the type of a term within, which stands nowhere, comes out too big: that tells false.
func typeKept(t *testing.T, term impl.Term) bool {
	t.Helper()
	mono, _ := impl.Mono(term)
	want, _ := plainCheck(term)
	if ty, code := plainUnsized(mono); code != impl.CheckGood || ty != want {
		t.Errorf("%s: another type: %s", plainTermText(term), plainTermText(mono))
	}
	own, code := plainCheck(mono)
	checkedTerm(t, mono, code, own)
	return code == impl.CheckGood
}

// endKept fails when what comes of a program has type variables or ends otherwise.
func endKept(t *testing.T, term impl.Term) impl.Outcome {
	t.Helper()
	mono, code := impl.Mono(term)
	if code != impl.MonoGood || !impl.IsMono(mono) || !plainIsMono(mono) {
		t.Errorf("%s: %d, %s", plainTermText(term), code, plainTermText(mono))
	}
	before, after := impl.Run(term, impl.MaxFuel), impl.Run(mono, impl.MaxFuel)
	if before.End == 0 || after.End == 0 || !impl.SameEnd(before, after) {
		t.Errorf("%s: ends with %v, not %v: %s", plainTermText(term), after, before, plainTermText(mono))
	}
	return before
}

// plainIsMono is what IsMono must answer of a right term, written anew.
func plainIsMono(t impl.Term) bool {
	binding := t.K == impl.TmLet || t.K == impl.TmFix
	if binding && t.N > 0 || len(t.Ts) > 0 || strings.Contains(plainText(t.T), "v") {
		return false
	}
	return !slices.ContainsFunc(t.A, func(a impl.Term) bool { return !plainIsMono(a) })
}

// plainCopier makes the copies from the inside out, each binding all at once, under names that are none: S, #, the number of its binding, #, the types.
type plainCopier struct {
	bindings int
	big      bool
}

// plainMono is what Mono and Copies must answer of a right term, written anew; the numbers of the copies are given at last.
func plainMono(t impl.Term) (impl.Term, int, int) {
	ty, code := plainCheck(t)
	if code != impl.CheckGood || ty != "i" && ty != "b" && ty != "l i" || strings.Contains(plainTermText(t), ".") {
		return impl.Term{}, impl.MonoForm, -1
	}
	var p plainCopier
	whole := p.expanded(t)
	met := plainMet(whole)
	if len(met) > 30 {
		return impl.Term{}, impl.MonoMany, -1
	}
	whole = plainNumbered(whole, met)
	if p.big || plainNodes(whole) > 150 || plainDepth(whole) > 24 || plainLongest(whole) > 8 {
		return impl.Term{}, impl.MonoBig, -1
	}
	return whole, impl.MonoGood, len(met)
}

func (p *plainCopier) expanded(t impl.Term) impl.Term {
	if t.N == 0 || t.K != impl.TmLet && t.K != impl.TmFix {
		whole := t
		whole.A = nil
		for _, a := range t.A {
			whole.A = append(whole.A, p.expanded(a))
		}
		return whole
	}
	p.bindings++
	mark := t.S + "#" + strconv.Itoa(p.bindings) + "#"
	rows := map[string][]impl.Ty{}
	in := plainInstead(p.expanded(t.A[1]), t.S, func(v impl.Term) impl.Term {
		name := mark
		for _, ty := range v.Ts {
			name += plainText(ty) + " "
			if !plainTyOk(ty) {
				p.big = true
				return tmNum(0)
			}
		}
		rows[name] = v.Ts
		return tmVar(name)
	})
	met := slices.DeleteFunc(plainMet(in), func(s string) bool { return !strings.HasPrefix(s, mark) })
	for _, name := range slices.Backward(met) {
		first := p.put(t.A[0], rows[name])
		if t.K == impl.TmFix {
			first = plainInstead(first, t.S, func(impl.Term) impl.Term { return tmVar(name) })
			in = tmFix(name, 0, p.putTy(t.T, rows[name]), first, in)
		} else {
			in = tmLet(name, 0, first, in)
		}
	}
	return in
}

// put puts types for the variables of all types in t; those of a TmVar's may come out too big, which is seen where its binding is copied.
func (p *plainCopier) put(t impl.Term, ts []impl.Ty) impl.Term {
	whole := t
	whole.T, whole.Ts, whole.A = p.putTy(t.T, ts), nil, nil
	for _, ty := range t.Ts {
		whole.Ts = append(whole.Ts, plainTyPut(ty, ts))
	}
	for _, a := range t.A {
		whole.A = append(whole.A, p.put(a, ts))
	}
	return whole
}

func (p *plainCopier) putTy(t impl.Ty, ts []impl.Ty) impl.Ty {
	whole := plainTyPut(t, ts)
	p.big = p.big || t.K != 0 && !plainTyOk(whole)
	return whole
}

func plainTyPut(t impl.Ty, ts []impl.Ty) impl.Ty {
	if t.K == impl.TyVar {
		return ts[t.N]
	}
	whole := impl.Ty{K: t.K, N: t.N}
	for _, a := range t.A {
		whole.A = append(whole.A, plainTyPut(a, ts))
	}
	return whole
}

func plainTyOk(t impl.Ty) bool {
	text := plainText(t)
	return plainTyDepth(text) <= 6 && len(strings.Fields(text)) <= 60
}

// plainInstead puts something else in the place of each TmVar of this name that is free in t.
func plainInstead(t impl.Term, s string, other func(impl.Term) impl.Term) impl.Term {
	if t.K == impl.TmVar && t.S == s {
		return other(t)
	}
	whole := t
	whole.A = append([]impl.Term{}, t.A...)
	for i := range whole.A {
		// A name of its own, alone in that part, tells whether t binds it there.
		probe := t
		probe.A = slices.Repeat([]impl.Term{tmNum(1)}, len(t.A))
		probe.A[i] = tmVar(s)
		if len(plainFree(probe)) > 0 {
			whole.A[i] = plainInstead(t.A[i], s, other)
		}
	}
	return whole
}

// plainMet are the names of copies that t has, each once, in the order in which they are met: of copies around each other first what is within all.
func plainMet(t impl.Term) []string {
	var met []string
	meet := func(more []string) {
		for _, s := range more {
			if !slices.Contains(met, s) {
				met = append(met, s)
			}
		}
	}
	if t.K == impl.TmVar && strings.Contains(t.S, "#") {
		return []string{t.S}
	}
	if at := strings.LastIndex(t.S, "#"); at >= 0 {
		var firsts []impl.Term
		for mark := t.S[:at+1]; strings.HasPrefix(t.S, mark) && t.K != impl.TmVar; t = t.A[1] {
			firsts = append(firsts, t.A[0])
		}
		t = tmOf(0, append([]impl.Term{t}, firsts...)...)
	}
	for _, a := range t.A {
		meet(plainMet(a))
	}
	return met
}

func plainNumbered(t impl.Term, met []string) impl.Term {
	whole := t
	if plain, _, copied := strings.Cut(t.S, "#"); copied {
		whole.S = plain + "." + strconv.Itoa(slices.Index(met, t.S))
	}
	whole.A = nil
	for _, a := range t.A {
		whole.A = append(whole.A, plainNumbered(a, met))
	}
	return whole
}

func plainLongest(t impl.Term) int {
	longest := max(len(t.S), len(t.Z))
	for _, a := range t.A {
		longest = max(longest, plainLongest(a))
	}
	return longest
}

// rowTys are n ground types, no two alike.
func rowTys(n int) []string {
	var all []string
	for _, ty := range smallTys(3) {
		if text := plainText(ty); !strings.Contains(text, "v") {
			all = append(all, text)
		}
	}
	return all[:n]
}

// sumOf is the text of the sum of these, as flat as can be, from the front.
func sumOf(texts []string) string {
	if len(texts) == 1 {
		return texts[0]
	}
	half := len(texts) / 2
	return "op + " + sumOf(texts[:half]) + " " + sumOf(texts[half:])
}

// usedAs is the sum of n numbers, each with another type in its hole.
func usedAs(use string, n int) string {
	var uses []string
	for _, ty := range rowTys(n) {
		uses = append(uses, filled(use, ty))
	}
	return sumOf(uses)
}

// usedAt is the sum of a number's n instances.
func usedAt(name string, n int) string { return usedAs("v "+name+" 1 #", n) }

// groups is a program with a binding for each of these, of that name and copied so often.
func groups(name string, copies ...int) string {
	var all []string
	for _, n := range copies {
		all = append(all, "let "+name+" 1 n 1 "+usedAt(name, n))
	}
	return sumOf(all)
}

// polys are the binders with type variables that are not hidden.
func (m typedMaker) polys() []plainBinder {
	var all []plainBinder
	seen := map[string]bool{}
	for _, b := range m.names {
		if b.vars > 0 && !seen[b.name] {
			all = append(all, b)
		}
		seen[b.name] = true
	}
	return all
}

// uses puts instances around t, or beside it, that change nothing of what it comes to.
func (m typedMaker) uses(n int, t impl.Term) impl.Term {
	polys := m.polys()
	if len(polys) == 0 {
		return t
	}
	if m.r.Intn(5) == 0 {
		n *= 4
	}
	for range n {
		b := polys[m.r.Intn(len(polys))]
		use := tmVar(b.name, []impl.Ty{m.ty(2), m.ty(2)}[:b.vars]...)
		switch m.r.Intn(3) {
		case 0:
			t = tmLet("w", 0, use, t)
		case 1:
			t = tmOf(impl.TmFst, tmOf(impl.TmPair, t, use))
		case 2:
			t = tmOf(impl.TmSnd, tmOf(impl.TmPair, use, t))
		}
	}
	return t
}

// polyValue is a value that a binding with type variables may have, and its type.
func (m typedMaker) polyValue(levels int) (impl.Term, impl.Ty) {
	polys := m.polys()
	switch m.r.Intn(6) {
	case 0:
		return tmNum(m.r.Intn(9)), tyInt
	case 1:
		ty := m.ty(2)
		return tmNil(ty), tyList(ty)
	case 2:
		if len(polys) == 0 {
			break
		}
		b := polys[m.r.Intn(len(polys))]
		ts := []impl.Ty{m.ty(1), m.ty(2)}[:b.vars]
		var puts []string
		for _, ty := range ts {
			puts = append(puts, plainText(ty))
		}
		if ty, ok := impl.ParseTy(putInText(b.ty, puts)); ok {
			return tmVar(b.name, ts...), ty
		}
	}
	is := tyFun(m.ty(2), m.ty(2))
	return m.polyFn(is, levels), is
}

func (m typedMaker) polyFn(is impl.Ty, levels int) impl.Term {
	x := m.name()
	inner := m.with(x, is.A[0], 0)
	return tmFn(x, is.A[0], inner.uses(m.r.Intn(3), inner.term(is.A[1], levels)))
}

// polyTerm is of this type, and has about so many bindings with type variables.
func (m typedMaker) polyTerm(ty impl.Ty, bindings, levels int) impl.Term {
	if bindings == 0 {
		if m.r.Intn(6) == 0 {
			return m.uses(m.r.Intn(4), m.loop(ty, levels))
		}
		return m.uses(m.r.Intn(4), m.term(ty, levels))
	}
	s := m.name()
	if m.r.Intn(5) == 0 {
		other, first := m.ty(2), m.r.Intn(bindings+1)
		return m.uses(m.r.Intn(2), tmLet(s, 0, m.polyTerm(other, first, levels), m.with(s, other, 0).polyTerm(ty, bindings-first, levels)))
	}
	vars := 1 + m.r.Intn(2)
	inner := m.reaching(vars)
	if m.r.Intn(3) == 0 {
		is := tyFun(inner.ty(2), inner.ty(2))
		return m.uses(m.r.Intn(2), tmFix(s, vars, is, inner.with(s, is, 0).polyFn(is, levels), m.with(s, is, vars).polyTerm(ty, bindings-1, levels)))
	}
	value, is := inner.polyValue(levels)
	return m.uses(m.r.Intn(2), tmLet(s, vars, value, m.with(s, is, vars).polyTerm(ty, bindings-1, levels)))
}

// polyPrograms are programs with bindings that have type variables, found by chance, always the same ones.
func polyPrograms(n int) []impl.Term {
	m := typedMaker{r: rand.New(rand.NewSource(23))}
	var all []impl.Term
	for len(all) < n {
		ty := []impl.Ty{tyInt, tyBool, tyList(tyInt)}[m.r.Intn(3)]
		if t := m.polyTerm(ty, 1+m.r.Intn(8), 1+m.r.Intn(3)); impl.Program(t) {
			all = append(all, t)
		}
	}
	return all
}
