package tests

import (
	"math/rand"
	"strconv"
	"strings"
	"testing"

	"loop.example/g00187/impl"
)

func isValue(text string) impl.Outcome { return impl.Outcome{End: impl.EndValue, Text: text} }
func isRaise(n int) impl.Outcome       { return impl.Outcome{End: impl.EndRaise, N: n} }

var (
	isFuel    = impl.Outcome{End: impl.EndFuel}
	isNothing = impl.Outcome{}
)

// ends reads an outcome: a number behind "raise ", "fuel", or the text of a value.
func ends(told string) impl.Outcome {
	if n, ok := strings.CutPrefix(told, "raise "); ok {
		number, err := strconv.Atoi(n)
		if err != nil {
			panic(err)
		}
		return isRaise(number)
	}
	if told == "fuel" {
		return isFuel
	}
	return isValue(told)
}

// ran fails when the text does not end so with just these steps; or else with less fuel, or with more.
func ran(t *testing.T, text string, told string, steps int) {
	t.Helper()
	term := parsedTerm(t, text)
	want := ends(told)
	if end, took := plainRun(term, impl.MaxFuel); end != want || took != steps {
		t.Errorf("the test's own: %s: %v with %d steps, not %v with %d", text, end, took, want, steps)
	}
	ranTerm(t, term, want, steps)
}

func ranTerm(t *testing.T, term impl.Term, want impl.Outcome, steps int) {
	t.Helper()
	for _, fuel := range []int{0, 1, steps / 2, steps - 1, steps, steps + 1, impl.MaxFuel - 1, impl.MaxFuel} {
		if fuel < 0 || fuel > impl.MaxFuel {
			continue
		}
		end, took := want, steps
		if fuel < steps {
			end, took = isFuel, fuel
		}
		ranWith(t, term, fuel, end, took)
	}
}

func ranWith(t *testing.T, term impl.Term, fuel int, want impl.Outcome, steps int) {
	t.Helper()
	if got := impl.Run(term, fuel); got != want {
		t.Errorf("%s: Run with %d: %v, not %v", plainTermText(term), fuel, got, want)
	}
	if got := impl.Steps(term, fuel); got != steps {
		t.Errorf("%s: Steps with %d: %d, not %d", plainTermText(term), fuel, got, steps)
	}
}

// asPlain holds Run and Steps against the test's own with this fuel.
func asPlain(t *testing.T, term impl.Term, fuel int) (impl.Outcome, int) {
	t.Helper()
	end, steps := plainRun(term, fuel)
	ranWith(t, term, fuel, end, steps)
	return end, steps
}

// plainValue is a number 'n', a truth 'b', a function 'f', a pair 'p', a list 'c' or one that has nothing 'e'.
type plainValue struct {
	kind byte
	n    int
	a, b *plainValue
	fn   impl.Term
	env  map[string]*plainValue
}

// plainFrame is a term of which the part at waits for its value; got are those ahead of it.
type plainFrame struct {
	t   impl.Term
	at  int
	env map[string]*plainValue
	got []*plainValue
}

// plainMachine runs without any call of itself: what waits stands in a list, a raise takes from that list.
type plainMachine struct {
	waits []plainFrame
	t     impl.Term
	env   map[string]*plainValue
	value *plainValue
	up    bool
	n     int
	// wrong is how often a part was not what is wanted.
	wrong int
	// met is told each call: the call's parts and those of the function that is called. With it a TmFix is begun twice.
	met   func(call, fn *impl.Term)
	begun bool
}

// plainRun is what Run and Steps must answer of a right term without free names, written anew.
func plainRun(t impl.Term, fuel int) (impl.Outcome, int) {
	m := plainMachine{t: t}
	end, steps := m.run(fuel)
	if end.End == impl.EndValue {
		end.Text = plainShown(m.value)
	}
	return end, steps
}

// plainEnd is plainRun but for the text of a value.
func plainEnd(t impl.Term, fuel int) (impl.Outcome, int) {
	m := plainMachine{t: t}
	return m.run(fuel)
}

// plainWrong is how often a part was not what is wanted.
func plainWrong(t impl.Term, fuel int) int {
	m := plainMachine{t: t}
	m.run(fuel)
	return m.wrong
}

func (m *plainMachine) run(fuel int) (impl.Outcome, int) {
	for steps := 0; ; {
		switch {
		case m.up:
			if !m.caught() {
				return isRaise(m.n), steps
			}
		case m.value != nil:
			if len(m.waits) == 0 {
				return isValue(""), steps
			}
			m.goOn()
		case steps == fuel:
			return isFuel, steps
		default:
			steps++
			m.begin()
		}
	}
}

func plainShown(v *plainValue) string {
	switch v.kind {
	case 'n':
		return strconv.Itoa(v.n)
	case 'b':
		return []string{"u", "t"}[v.n]
	case 'f':
		return "fn"
	case 'p':
		return "(" + plainShown(v.a) + "," + plainShown(v.b) + ")"
	}
	var all []string
	for ; v.kind == 'c'; v = v.b {
		all = append(all, plainShown(v.a))
	}
	return "[" + strings.Join(all, ",") + "]"
}

func plainWith(env map[string]*plainValue, name string, v *plainValue) map[string]*plainValue {
	more := map[string]*plainValue{name: v}
	for s, is := range env {
		if s != name {
			more[s] = is
		}
	}
	return more
}

func (m *plainMachine) raise(n int) { m.up, m.n, m.value = true, n, nil }

func (m *plainMachine) notWanted() {
	m.wrong++
	m.raise(-2)
}

func (m *plainMachine) eval(t impl.Term, env map[string]*plainValue) {
	m.t, m.env, m.value = t, env, nil
}

// caught leaves all that waits within the innermost term that is tried.
func (m *plainMachine) caught() bool {
	for len(m.waits) > 0 {
		f := m.waits[len(m.waits)-1]
		m.waits = m.waits[:len(m.waits)-1]
		if f.t.K == impl.TmTry {
			m.up = false
			m.eval(f.t.A[1], plainWith(f.env, f.t.S, &plainValue{kind: 'n', n: m.n}))
			return true
		}
	}
	return false
}

func (m *plainMachine) begin() {
	t, env := m.t, m.env
	switch t.K {
	case impl.TmNum:
		m.value = &plainValue{kind: 'n', n: t.N}
	case impl.TmBool:
		m.value = &plainValue{kind: 'b', n: t.N}
	case impl.TmNil:
		m.value = &plainValue{kind: 'e'}
	case impl.TmVar:
		m.value = env[t.S]
	case impl.TmFn:
		m.value = &plainValue{kind: 'f', fn: t, env: env}
	case impl.TmFix:
		m.begun = !m.begun
		if m.met != nil && m.begun {
			return
		}
		own := &plainValue{kind: 'f', fn: t.A[0]}
		own.env = plainWith(env, t.S, own)
		m.eval(t.A[1], own.env)
	default:
		m.waits = append(m.waits, plainFrame{t: t, env: env})
		m.eval(t.A[0], env)
	}
}

// goOn hands a value to what waits for it.
func (m *plainMachine) goOn() {
	f := m.waits[len(m.waits)-1]
	m.waits = m.waits[:len(m.waits)-1]
	t, v := f.t, m.value
	switch t.K {
	case impl.TmLet:
		m.eval(t.A[1], plainWith(f.env, t.S, v))
	case impl.TmIf:
		if v.kind != 'b' {
			m.notWanted()
			return
		}
		m.eval(t.A[2-v.n], f.env)
	case impl.TmCase:
		switch v.kind {
		case 'e':
			m.eval(t.A[1], f.env)
		case 'c':
			m.eval(t.A[2], plainWith(plainWith(f.env, t.S, v.a), t.Z, v.b))
		default:
			m.notWanted()
		}
	case impl.TmTry:
	default:
		f.got = append(f.got, v)
		if len(f.got) < len(t.A) {
			f.at++
			m.waits = append(m.waits, f)
			m.eval(t.A[f.at], f.env)
			return
		}
		m.whole(t, f.got)
	}
}

// plainKinds are the kinds of values that a kind of term wants of its parts; a blank wants nothing.
func plainKinds(kind int) string {
	switch kind {
	case impl.TmApp:
		return "f "
	case impl.TmFst, impl.TmSnd:
		return "p"
	case impl.TmCons:
		return " l"
	case impl.TmOp:
		return "nn"
	case impl.TmRaise:
		return "n"
	}
	return "  "
}

func (m *plainMachine) whole(t impl.Term, got []*plainValue) {
	for i, want := range []byte(plainKinds(t.K)) {
		kind := got[i].kind
		if kind == 'c' || kind == 'e' {
			kind = 'l'
		}
		if want != ' ' && want != kind {
			m.notWanted()
			return
		}
	}
	switch t.K {
	case impl.TmApp:
		fn := got[0]
		if m.met != nil {
			m.met(&t.A[0], &fn.fn.A[0])
		}
		m.eval(fn.fn.A[0], plainWith(fn.env, fn.fn.S, got[1]))
	case impl.TmPair:
		m.value = &plainValue{kind: 'p', a: got[0], b: got[1]}
	case impl.TmCons:
		m.value = &plainValue{kind: 'c', a: got[0], b: got[1]}
	case impl.TmFst:
		m.value = got[0].a
	case impl.TmSnd:
		m.value = got[0].b
	case impl.TmRaise:
		m.raise(got[0].n)
	case impl.TmOp:
		m.op(t.N, got[0].n, got[1].n)
	}
}

func (m *plainMachine) op(op, a, b int) {
	truth := map[bool]int{true: 1}
	switch op {
	case 4:
		m.value = &plainValue{kind: 'b', n: truth[a < b]}
		return
	case 5:
		m.value = &plainValue{kind: 'b', n: truth[a == b]}
		return
	}
	n := []int{0, a + b, a - b, a * b}[op]
	if n > 1000000 || n < -1000000 {
		m.raise(-1)
		return
	}
	m.value = &plainValue{kind: 'n', n: n}
}

// fits tells whether a text begins with a value of this type, and what is behind it.
func fits(text string, ty impl.Ty) (string, bool) {
	switch ty.K {
	case impl.TyInt:
		digits := strings.TrimLeft(strings.TrimPrefix(text, "-"), "0123456789")
		n, err := strconv.Atoi(text[:len(text)-len(digits)])
		return digits, err == nil && strings.HasPrefix(text, strconv.Itoa(n)) && n >= -1000000 && n <= 1000000
	case impl.TyBool:
		return text[min(1, len(text)):], strings.HasPrefix(text, "t") || strings.HasPrefix(text, "u")
	case impl.TyFun:
		return strings.CutPrefix(text, "fn")
	case impl.TyPair:
		text, opened := strings.CutPrefix(text, "(")
		text, first := fits(text, ty.A[0])
		text, parted := strings.CutPrefix(text, ",")
		text, second := fits(text, ty.A[1])
		text, closes := strings.CutPrefix(text, ")")
		return text, opened && first && parted && second && closes
	}
	text, opened := strings.CutPrefix(text, "[")
	if text, none := strings.CutPrefix(text, "]"); none {
		return text, opened
	}
	for more := opened; more; {
		var ok bool
		if text, ok = fits(text, ty.A[0]); !ok {
			return text, false
		}
		text, more = strings.CutPrefix(text, ",")
	}
	text, closes := strings.CutPrefix(text, "]")
	return text, opened && closes
}

// fitsWhole tells whether a text is a value of this type.
func fitsWhole(text string, ty impl.Ty) bool {
	rest, ok := fits(text, ty)
	return ok && rest == ""
}

// closed binds the free names of a term around it; what it answers seldom is right no longer.
func closed(r *rand.Rand, t impl.Term) impl.Term {
	values := []impl.Term{
		tmNum(3), tmNum(-1000000), tmBool(1), tmNil(tyInt), tmOf(impl.TmCons, tmNum(1), tmNil(tyInt)), tmOf(impl.TmPair, tmNum(2), tmBool(0)),
		tmFn("x", tyInt, tmVar("x")), tmFn("y", tyInt, tmOf(impl.TmPair, tmVar("y"), tmVar("y"))), tmFn("y", tyInt, tmRaise(tyInt, tmVar("y"))),
	}
	for _, name := range plainFree(t) {
		t = tmLet(name, 0, values[r.Intn(len(values))], t)
	}
	return t
}

// loop is a function that calls itself a number of times, or without end.
func (m typedMaker) loop(ty impl.Ty, levels int) impl.Term {
	is := tyFun(tyInt, ty)
	inner := m.with("f", is, 0).with("n", tyInt, 0)
	step := 1 + m.r.Intn(3)
	if m.r.Intn(8) == 0 {
		step = 0
	}
	call := tmOf(impl.TmApp, tmVar("f"), tmOp(2, tmVar("n"), tmNum(step)))
	body := tmOf(impl.TmIf, tmOp(4, tmVar("n"), tmNum(1)), inner.term(ty, levels), tmLet("y", 0, call, inner.with("y", ty, 0).term(ty, levels)))
	if m.r.Intn(3) == 0 {
		body = tmTry("e", body, inner.with("e", tyInt, 0).term(ty, levels))
	}
	return tmFix("f", 0, is, tmFn("n", tyInt, body), tmOf(impl.TmApp, tmVar("f"), tmNum(m.r.Intn(40))))
}

// loopTerms are right terms that should have a type and call themselves, found by chance.
func loopTerms(n int) []impl.Term {
	m := typedMaker{r: rand.New(rand.NewSource(17))}
	var all []impl.Term
	for len(all) < n {
		if t := m.loop(m.ty(3), 1+m.r.Intn(5)); impl.TermOk(t) {
			all = append(all, t)
		}
	}
	return all
}

// runTerms are right terms without free names, found by chance: such with a type, the same ones spoilt, and such that never had one.
func runTerms(n int) []impl.Term {
	r := rand.New(rand.NewSource(3))
	all := append(typedTerms(n/2), loopTerms(n/2)...)
	for _, t := range all {
		all = append(all, closed(r, spoilt(r, t)))
	}
	for _, t := range anyTerms(n) {
		all = append(all, closed(r, t))
	}
	var right []impl.Term
	for _, t := range all {
		if impl.TermOk(t) {
			right = append(right, t)
		}
	}
	return right
}

// tickled is a program that counts down from n, and takes wait more steps ahead of that.
func tickled(n, wait int) impl.Term {
	count := tmFix("f", 0, tyFun(tyInt, tyInt), tmFn("n", tyInt, tmOf(impl.TmIf, tmOp(4, tmVar("n"), tmNum(1)), tmNum(7),
		tmOf(impl.TmApp, tmVar("f"), tmOp(2, tmVar("n"), tmNum(1))))), tmOf(impl.TmApp, tmVar("f"), tmNum(n)))
	return wrapped(func(t impl.Term) impl.Term { return tmTry("e", t, tmNum(0)) }, wait, count)
}
