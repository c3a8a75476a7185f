package tests

import (
	"math/rand"
	"slices"
	"strings"
	"testing"

	"loop.example/g00187/impl"
)

// filled is a text whose holes, each a token #, have these texts, from the front.
func filled(text string, fill ...string) string {
	for _, f := range fill {
		text = strings.Replace(text, "#", f, 1)
	}
	return text
}

// checked fails when TypeOf the text is not this, or tells a type beside a code that refuses.
func checked(t *testing.T, text string, code int, ty string) {
	t.Helper()
	term := parsedTerm(t, text)
	if want, wantCode := plainCheck(term); wantCode != code || want != ty {
		t.Errorf("the test's own: %s: %q and %d, not %q and %d", text, want, wantCode, ty, code)
	}
	checkedTerm(t, term, code, ty)
}

func checkedTerm(t *testing.T, term impl.Term, code int, ty string) {
	t.Helper()
	got, c := impl.TypeOf(term)
	told := ""
	if c == impl.CheckGood {
		told = plainText(got)
	} else if !zeroTy(got) {
		t.Errorf("%s: a type beside the code %d: %v", plainTermText(term), c, got)
	}
	if c != code || told != ty {
		t.Errorf("%s: %q and %d, not %q and %d", plainTermText(term), told, c, ty, code)
	}
	program := code == impl.CheckGood && (ty == "i" || ty == "b" || ty == "l i") && !strings.Contains(plainTermText(term), ".")
	if impl.Program(term) != program {
		t.Errorf("%s: Program is not %v", plainTermText(term), program)
	}
}

// refused are texts with just one fault, of this code, wherever they stand.
func refused(code int) []string {
	switch code {
	case impl.CheckName:
		return []string{"v nobody 0", "snd pair n 1 v nobody 1 i"}
	case impl.CheckType:
		return []string{"fst n 1", "if t op + n 1 t n 2"}
	}
	return []string{"let q 1 pair n 1 n 2 n 3", "let q 0 n 1 v q 1 i"}
}

func faultCodes() []int { return []int{impl.CheckName, impl.CheckType, impl.CheckPoly} }

// plainBinder is a name with the text of its type and how many type variables are its own.
type plainBinder struct {
	name, ty string
	vars     int
}

// plainCode is what stops plainCheck.
type plainCode int

// plainCheck is what TypeOf must answer of a right term, written anew: types are texts, names a list, a fault a panic.
func plainCheck(t impl.Term) (ty string, code int) {
	return plainTypes{}.checked(t)
}

// plainUnsized is plainCheck, but a type may be as big as it likes.
func plainUnsized(t impl.Term) (ty string, code int) {
	return plainTypes{unsized: true}.checked(t)
}

func (p plainTypes) checked(t impl.Term) (ty string, code int) {
	defer func() {
		switch c := recover().(type) {
		case nil:
		case plainCode:
			ty, code = "", int(c)
		default:
			panic(c)
		}
	}()
	return p.of(t), impl.CheckGood
}

func plainAsk(ok bool, code int) {
	if !ok {
		panic(plainCode(code))
	}
}

// plainTypes are the names, the innermost first, and how many type variables there are, where a term stands; unsized ones may be of any size.
type plainTypes struct {
	names   []plainBinder
	vars    int
	unsized bool
}

func (p plainTypes) with(name, ty string, vars int) plainTypes {
	p.names = append([]plainBinder{{name, ty, vars}}, p.names...)
	return p
}

func (p plainTypes) reaching(vars int) plainTypes {
	if vars > 0 {
		p.vars = vars
	}
	return p
}

// standing is the text of a type that stands in a term.
func (p plainTypes) standing(ty impl.Ty) string {
	text := plainText(ty)
	plainAsk(p.vars > 1 || !strings.Contains(text, "v1"), impl.CheckPoly)
	plainAsk(p.vars > 0 || !strings.Contains(text, "v0"), impl.CheckPoly)
	return text
}

func (p plainTypes) of(t impl.Term) string {
	switch t.K {
	case impl.TmNum:
		return "i"
	case impl.TmBool:
		return "b"
	case impl.TmVar:
		return p.ofVar(t)
	case impl.TmNil:
		return p.sized("l " + p.standing(t.T))
	case impl.TmFn:
		ty := p.standing(t.T)
		return p.sized("f " + ty + " " + p.with(t.S, ty, 0).of(t.A[0]))
	case impl.TmLet:
		plainAsk(t.N == 0 || p.vars == 0 && slices.Contains([]int{1, 2, 3, 4, 12}, t.A[0].K), impl.CheckPoly)
		return p.with(t.S, p.reaching(t.N).of(t.A[0]), t.N).of(t.A[1])
	case impl.TmFix:
		plainAsk(t.N == 0 || p.vars == 0, impl.CheckPoly)
		ty := p.reaching(t.N).standing(t.T)
		first := p.reaching(t.N).with(t.S, ty, 0).of(t.A[0])
		second := p.with(t.S, ty, t.N).of(t.A[1])
		plainAsk(first == ty, impl.CheckType)
		return second
	case impl.TmRaise:
		ty := p.standing(t.T)
		plainAsk(p.of(t.A[0]) == "i", impl.CheckType)
		return ty
	case impl.TmCase:
		list := p.of(t.A[0])
		plainAsk(strings.HasPrefix(list, "l "), impl.CheckType)
		none := p.of(t.A[1])
		some := p.with(t.S, list[2:], 0).with(t.Z, list, 0).of(t.A[2])
		plainAsk(none == some, impl.CheckType)
		return none
	case impl.TmTry:
		tried := p.of(t.A[0])
		plainAsk(tried == p.with(t.S, "i", 0).of(t.A[1]), impl.CheckType)
		return tried
	}
	var parts []string
	for _, a := range t.A {
		parts = append(parts, p.of(a))
	}
	return p.ofParts(t, parts)
}

func (p plainTypes) ofVar(t impl.Term) string {
	i := slices.IndexFunc(p.names, func(b plainBinder) bool { return b.name == t.S })
	plainAsk(i >= 0, impl.CheckName)
	b := p.names[i]
	plainAsk(len(t.Ts) == b.vars, impl.CheckPoly)
	var puts []string
	for _, ty := range t.Ts {
		puts = append(puts, p.standing(ty))
	}
	if b.vars == 0 {
		return b.ty
	}
	return p.sized(putInText(b.ty, puts))
}

// ofParts is of the kinds that bind nothing and have no type of their own.
func (p plainTypes) ofParts(t impl.Term, parts []string) string {
	ask := func(ok bool) { plainAsk(ok, impl.CheckType) }
	switch t.K {
	case impl.TmApp:
		within := plainWithin(parts[0], "f")
		ask(within[0] == parts[1])
		return within[1]
	case impl.TmIf:
		ask(parts[0] == "b" && parts[1] == parts[2])
		return parts[1]
	case impl.TmPair:
		return p.sized("p " + parts[0] + " " + parts[1])
	case impl.TmFst:
		return plainWithin(parts[0], "p")[0]
	case impl.TmSnd:
		return plainWithin(parts[0], "p")[1]
	case impl.TmCons:
		ask(parts[1] == "l "+parts[0])
		return parts[1]
	}
	ask(parts[0] == "i" && parts[1] == "i")
	return []string{"", "i", "i", "i", "b", "b"}[t.N]
}

// plainWithin are the types within one of this sign.
func plainWithin(ty, sign string) []string {
	plainAsk(strings.HasPrefix(ty, sign+" "), impl.CheckType)
	return cutTys(ty[2:])
}

// cutTys cuts a text of types, one behind the other, into these.
func cutTys(text string) []string {
	var cut []string
	wanted, start := 1, 0
	tokens := strings.Fields(text)
	for i, token := range tokens {
		switch token {
		case "f", "p":
			wanted++
		case "l":
		default:
			wanted--
		}
		if wanted == 0 {
			cut = append(cut, strings.Join(tokens[start:i+1], " "))
			wanted, start = 1, i+1
		}
	}
	return cut
}

func plainTyDepth(ty string) int {
	depth := 0
	if len(ty) > 2 {
		for _, part := range cutTys(ty[2:]) {
			depth = max(depth, plainTyDepth(part))
		}
	}
	return depth + 1
}

// sized refuses a type that is too deep or has too many nodes.
func (p plainTypes) sized(ty string) string {
	plainAsk(p.unsized || plainTyDepth(ty) <= 6 && len(strings.Fields(ty)) <= 60, impl.CheckType)
	return ty
}

// sumOfNodes is a number, and has this many nodes.
func sumOfNodes(nodes int) impl.Term {
	switch nodes {
	case 1:
		return tmNum(1)
	case 2:
		return tmRaise(tyInt, tmNum(1))
	}
	half := (nodes - 1) / 2
	return tmOp(1, sumOfNodes(half), sumOfNodes(nodes-1-half))
}

// typedMaker makes terms that have a type, by chance.
type typedMaker struct {
	r     *rand.Rand
	names []plainBinder
	vars  int
}

func (m typedMaker) name() string { return []string{"x", "y", "z", "f", "g"}[m.r.Intn(5)] }

// ty is a type that may stand where m is.
func (m typedMaker) ty(levels int) impl.Ty {
	ends := []impl.Ty{tyInt, tyBool, tyInt, tyV0, tyV1}[:3+m.vars]
	if levels <= 1 || m.r.Intn(3) == 0 {
		return ends[m.r.Intn(len(ends))]
	}
	switch m.r.Intn(3) {
	case 0:
		return tyFun(m.ty(levels-1), m.ty(levels-1))
	case 1:
		return tyPair(m.ty(levels-1), m.ty(levels-1))
	}
	return tyList(m.ty(levels - 1))
}

func (m typedMaker) with(name string, ty impl.Ty, vars int) typedMaker {
	m.names = append([]plainBinder{{name, plainText(ty), vars}}, m.names...)
	return m
}

func (m typedMaker) reaching(vars int) typedMaker {
	if vars > 0 {
		m.vars = vars
	}
	return m
}

// varsOf are the TmVars of this type; of a binder with type variables, with types that are tried.
func (m typedMaker) varsOf(ty impl.Ty) []impl.Term {
	want, seen := plainText(ty), map[string]bool{}
	var all []impl.Term
	for _, b := range m.names {
		if seen[b.name] {
			continue
		}
		seen[b.name] = true
		for range 1 + 8*b.vars {
			ts := []impl.Ty{m.ty(2), m.ty(1)}[:b.vars]
			puts := []string{}
			for _, put := range ts {
				puts = append(puts, plainText(put))
			}
			if b.vars == 0 && b.ty == want || b.vars > 0 && putInText(b.ty, puts) == want {
				all = append(all, tmVar(b.name, ts...))
			}
		}
	}
	return all
}

// term is of this type, and no deeper than levels, or little more.
func (m typedMaker) term(ty impl.Ty, levels int) impl.Term {
	if vars := m.varsOf(ty); len(vars) > 0 && m.r.Intn(max(levels, 1)+1) < 2 {
		return vars[m.r.Intn(len(vars))]
	}
	if levels <= 1 || m.r.Intn(3) == 0 {
		return m.made(ty, levels)
	}
	return m.reckoned(ty, levels-1)
}

// made is a term that makes what is of this type.
func (m typedMaker) made(ty impl.Ty, levels int) impl.Term {
	switch {
	case ty.K == impl.TyFun:
		s := m.name()
		return tmFn(s, ty.A[0], m.with(s, ty.A[0], 0).term(ty.A[1], levels-1))
	case ty.K == impl.TyPair:
		return tmOf(impl.TmPair, m.term(ty.A[0], levels-1), m.term(ty.A[1], levels-1))
	case ty.K == impl.TyList && levels > 1:
		return tmOf(impl.TmCons, m.term(ty.A[0], levels-1), m.term(ty, levels-1))
	case ty.K == impl.TyList:
		return tmNil(ty.A[0])
	case ty.K == impl.TyInt && levels > 1:
		return tmOp(1+m.r.Intn(3), m.term(tyInt, levels-1), m.term(tyInt, levels-1))
	case ty.K == impl.TyBool && levels > 1:
		return tmOp(4+m.r.Intn(2), m.term(tyInt, levels-1), m.term(tyInt, levels-1))
	case ty.K == impl.TyInt:
		return tmNum(m.r.Intn(9))
	case ty.K == impl.TyBool:
		return tmBool(m.r.Intn(2))
	}
	return tmRaise(ty, tmNum(1))
}

// reckoned is a term that comes to what is of this type by another way, its parts of these levels.
func (m typedMaker) reckoned(ty impl.Ty, levels int) impl.Term {
	other, s := m.ty(2), m.name()
	switch m.r.Intn(10) {
	case 0:
		return tmOf(impl.TmApp, m.term(tyFun(other, ty), levels), m.term(other, levels))
	case 1:
		return tmOf(impl.TmIf, m.term(tyBool, levels), m.term(ty, levels), m.term(ty, levels))
	case 2:
		return tmOf(impl.TmFst, m.term(tyPair(ty, other), levels))
	case 3:
		return tmOf(impl.TmSnd, m.term(tyPair(other, ty), levels))
	case 4:
		z := m.name()
		if z == s {
			z = "rest"
		}
		some := m.with(s, other, 0).with(z, tyList(other), 0)
		return tmCase(s, z, m.term(tyList(other), levels), m.term(ty, levels), some.term(ty, levels))
	case 5:
		return tmRaise(ty, m.term(tyInt, levels))
	case 6:
		return tmTry(s, m.term(ty, levels), m.with(s, tyInt, 0).term(ty, levels))
	case 7:
		return tmLet(s, 0, m.term(other, levels), m.with(s, other, 0).term(ty, levels))
	}
	return m.bound(s, ty, levels)
}

// bound is a binding, with type variables where it may have any, whose name is used.
func (m typedMaker) bound(s string, ty impl.Ty, levels int) impl.Term {
	vars := 0
	if m.vars == 0 {
		vars = m.r.Intn(3)
	}
	inner := m.reaching(vars)
	is := tyFun(inner.ty(2), inner.ty(2))
	in := m.with(s, is, vars).term(ty, levels)
	if m.r.Intn(2) == 0 {
		return tmLet(s, vars, inner.made(is, levels), in)
	}
	return tmFix(s, vars, is, inner.with(s, is, 0).made(is, levels), in)
}

// typedTerms are right terms that should have a type, found by chance, always the same ones.
func typedTerms(n int) []impl.Term {
	m := typedMaker{r: rand.New(rand.NewSource(11))}
	var all []impl.Term
	for len(all) < n {
		if t := m.term(m.ty(3), 2+m.r.Intn(6)); impl.TermOk(t) {
			all = append(all, t)
		}
	}
	return all
}

// spoilt is t with one of its nodes changed, by chance; it seldom is right no longer.
func spoilt(r *rand.Rand, t impl.Term) impl.Term {
	var changed impl.Term
	for range 5 {
		changed = fullTerm(t)
		nodes := nodesOf(&changed)
		spoil(r, nodes[r.Intn(len(nodes))])
		if impl.TermOk(changed) {
			break
		}
	}
	return changed
}

func nodesOf(t *impl.Term) []*impl.Term {
	nodes := []*impl.Term{t}
	for i := range t.A {
		nodes = append(nodes, nodesOf(&t.A[i])...)
	}
	return nodes
}

func spoil(r *rand.Rand, node *impl.Term) {
	tys := []impl.Ty{tyInt, tyBool, tyV0, tyV1, tyList(tyInt), tyFun(tyV0, tyV0), tyLists(5, tyInt), tyOfNodes(59)}
	ty := tys[r.Intn(len(tys))]
	switch r.Intn(9) {
	case 0, 1:
		ends := []impl.Term{tmNum(1), tmBool(1), tmVar("x"), tmVar("f", ty), tmVar("y", ty, tyInt), tmNil(ty), tmRaise(ty, tmNum(2)), tmVar("nobody")}
		*node = ends[r.Intn(len(ends))]
	case 2:
		node.N = r.Intn(3)
	case 3:
		node.T = ty
	case 4:
		node.Ts = append(node.Ts, ty)
	case 5:
		node.Ts = nil
	case 6:
		node.S = "w"
	case 7:
		node.K++
	case 8:
		slices.Reverse(node.A)
	}
}
