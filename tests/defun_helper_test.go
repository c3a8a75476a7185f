package tests

import (
	"math/rand"
	"reflect"
	"regexp"
	"slices"
	"strconv"
	"strings"
	"testing"

	"loop.example/g00187/impl"
)

func ftNum(n int) impl.FTerm                        { return impl.FTerm{K: impl.TmNum, N: n} }
func ftVar(s string) impl.FTerm                     { return impl.FTerm{K: impl.TmVar, S: s} }
func ftOf(kind int, parts ...impl.FTerm) impl.FTerm { return impl.FTerm{K: kind, A: parts} }
func ftLet(s string, a, b impl.FTerm) impl.FTerm {
	return impl.FTerm{K: impl.TmLet, S: s, A: []impl.FTerm{a, b}}
}
func ftTry(s string, a, b impl.FTerm) impl.FTerm {
	return impl.FTerm{K: impl.TmTry, S: s, A: []impl.FTerm{a, b}}
}
func ftOp(n int, a, b impl.FTerm) impl.FTerm {
	return impl.FTerm{K: impl.TmOp, N: n, A: []impl.FTerm{a, b}}
}
func ftMake(lam int, l ...string) impl.FTerm { return impl.FTerm{K: impl.FkMake, N: lam, L: l} }
func ftCall(a, b impl.FTerm, cases ...int) impl.FTerm {
	return impl.FTerm{K: impl.FkCall, Cases: cases, A: []impl.FTerm{a, b}}
}
func ftCase(s, z string, a, b, c impl.FTerm) impl.FTerm {
	return impl.FTerm{K: impl.TmCase, S: s, Z: z, A: []impl.FTerm{a, b, c}}
}
func ftFun(lam int, s string, body impl.FTerm, l ...string) impl.Fun {
	return impl.Fun{Lam: lam, L: l, S: s, Body: body}
}
func progOf(main impl.FTerm, funs ...impl.Fun) impl.Prog { return impl.Prog{Funs: funs, Main: main} }

// progReader reads a Prog of its text; it asks for the form alone, so that what is not right can be told too.
type progReader struct{ words []string }

// toldProg reads the lines of a Prog, with " | " between them for a byte 10.
func toldProg(text string) impl.Prog {
	var p impl.Prog
	lines := strings.Split(text, " | ")
	for i, line := range lines {
		r := progReader{strings.Fields(line)}
		head := r.word()
		if (head == "main") != (i == len(lines)-1) || head != "main" && head != "fun" {
			panic("the test's own: " + text)
		}
		if head == "main" {
			p.Main = r.term()
		} else {
			f := impl.Fun{Lam: r.number(), L: r.names(), S: r.word()}
			f.Body = r.term()
			p.Funs = append(p.Funs, f)
		}
		if len(r.words) > 0 {
			panic("the test's own: " + text)
		}
	}
	return p
}

func (r *progReader) word() string {
	if len(r.words) == 0 {
		panic("the test's own: a line is too short")
	}
	s := r.words[0]
	r.words = r.words[1:]
	return s
}

func (r *progReader) number() int {
	n, err := strconv.Atoi(r.word())
	if err != nil {
		panic(err)
	}
	return n
}

func (r *progReader) names() []string {
	var names []string
	for range r.number() {
		names = append(names, r.word())
	}
	return names
}

// barePart are the words, how many names there are behind it, and how many parts.
var barePart = map[string][3]int{
	"v": {impl.TmVar, 1, 0}, "let": {impl.TmLet, 1, 2}, "if": {impl.TmIf, 0, 3}, "pair": {impl.TmPair, 0, 2}, "fst": {impl.TmFst, 0, 1}, "snd": {impl.TmSnd, 0, 1}, "nil": {impl.TmNil, 0, 0}, "cons": {impl.TmCons, 0, 2},
	"case": {impl.TmCase, 2, 3}, "raise": {impl.TmRaise, 0, 1}, "try": {impl.TmTry, 1, 2}, "n": {impl.TmNum, 0, 0}, "t": {impl.TmBool, 0, 0}, "u": {impl.TmBool, 0, 0}, "op": {impl.TmOp, 0, 2}, "make": {impl.FkMake, 0, 0}, "call": {impl.FkCall, 0, 2},
}

func (r *progReader) term() impl.FTerm {
	word := r.word()
	is, ok := barePart[word]
	if !ok {
		panic("the test's own: " + word)
	}
	t := impl.FTerm{K: is[0]}
	if is[1] > 0 {
		t.S = r.word()
	}
	if is[1] > 1 {
		t.Z = r.word()
	}
	switch word {
	case "t":
		t.N = 1
	case "n":
		t.N = r.number()
	case "op":
		t.N = 1 + strings.Index("+-*<=", r.word())
	case "make":
		t.N = r.number()
		t.L = r.names()
	case "call":
		for range r.number() {
			t.Cases = append(t.Cases, r.number())
		}
	}
	for range is[2] {
		t.A = append(t.A, r.term())
	}
	return t
}

// plainProgText is what ProgText must answer of a right Prog, written anew.
func plainProgText(p impl.Prog) string {
	s := ""
	for _, f := range p.Funs {
		s += strings.Join(slices.Concat([]string{"fun", strconv.Itoa(f.Lam), strconv.Itoa(len(f.L))}, f.L, []string{f.S}), " ") + plainBare(f.Body) + "\n"
	}
	return s + "main" + plainBare(p.Main) + "\n"
}

// plainBare is the text of a term, a blank ahead of each token.
func plainBare(t impl.FTerm) string {
	words := []string{"", "n", "t", "v", "", "", "let", "", "if", "pair", "fst", "snd", "nil", "cons", "case", "op", "raise", "try", "make", "call"}
	s := " " + words[t.K]
	for _, name := range []string{t.S, t.Z} {
		if name != "" {
			s += " " + name
		}
	}
	switch t.K {
	case impl.TmNum:
		s += " " + strconv.Itoa(t.N)
	case impl.TmBool:
		s = []string{" u", " t"}[t.N]
	case impl.TmOp:
		s += " " + "+-*<="[t.N-1:t.N]
	case impl.FkMake:
		s += " " + strings.Join(append([]string{strconv.Itoa(t.N), strconv.Itoa(len(t.L))}, t.L...), " ")
	case impl.FkCall:
		s += " " + strconv.Itoa(len(t.Cases))
		for _, lam := range t.Cases {
			s += " " + strconv.Itoa(lam)
		}
	}
	for _, a := range t.A {
		s += plainBare(a)
	}
	return s
}

// plainDefunner goes from the outside in, and knows what each function that it is within captures, by the S of its TmFix.
type plainDefunner struct {
	web   plainWeb
	flow  impl.Flow
	funs  []impl.Fun
	nodes int
}

// plainAround are the functions of TmFixes around, by their names.
type plainAround map[string]impl.Fun

// plainDefun is what Defun must answer of a ready term, written anew.
func plainDefun(t impl.Term) impl.Prog {
	d := plainDefunner{web: webbed(t), flow: plainFlow(t)}
	whole := d.term(t, nil)
	slices.SortFunc(d.funs, func(a, b impl.Fun) int { return a.Lam - b.Lam })
	return impl.Prog{Funs: d.funs, Main: whole}
}

// plainCaptures puts what each such function captures in the place of its name, then leaves each name where it stands first.
func plainCaptures(free []string, around plainAround) []string {
	var all []string
	for _, s := range free {
		if f, is := around[s]; is {
			all = append(all, f.L...)
		} else {
			all = append(all, s)
		}
	}
	var names []string
	for i, s := range all {
		if slices.Index(all, s) == i {
			names = append(names, s)
		}
	}
	return names
}

func (d *plainDefunner) term(t impl.Term, around plainAround) impl.FTerm {
	node := d.nodes
	d.nodes++
	switch t.K {
	case impl.TmVar:
		if f, is := around[t.S]; is {
			return ftMake(f.Lam, slices.Clone(f.L)...)
		}
		return ftVar(t.S)
	case impl.TmFn:
		return d.fun(node, t, "", around)
	case impl.TmFix:
		d.nodes++
		is := d.fun(node+1, t.A[0], t.S, around)
		return ftLet(t.S, is, d.term(t.A[1], around))
	case impl.TmApp:
		a := d.term(t.A[0], around)
		return ftCall(a, d.term(t.A[1], around), d.web.callees(d.flow, node)...)
	}
	whole := impl.FTerm{K: t.K, N: t.N, S: t.S, Z: t.Z}
	for _, a := range t.A {
		whole.A = append(whole.A, d.term(a, around))
	}
	return whole
}

// fun is the record of a function that calls itself by this name, if it has one.
func (d *plainDefunner) fun(lam int, fn impl.Term, itself string, around plainAround) impl.FTerm {
	free := slices.DeleteFunc(plainFree(fn), func(s string) bool { return s == itself })
	f := impl.Fun{Lam: lam, L: plainCaptures(free, around), S: fn.S}
	inner := plainAround{}
	for s, outer := range around {
		inner[s] = outer
	}
	if itself != "" {
		inner[itself] = f
	}
	f.Body = d.term(fn.A[0], inner)
	d.funs = append(d.funs, f)
	return ftMake(lam, slices.Clone(f.L)...)
}

// bareFields are the fields that each kind names (C: Cases), and bareParts how many parts it has.
var (
	bareFields = map[int]string{1: "N", 2: "N", 3: "S", 6: "S", 8: "", 9: "", 10: "", 11: "", 12: "", 13: "", 14: "SZ", 15: "N", 16: "", 17: "S", 18: "NL", 19: "C"}
	bareParts  = map[int]int{6: 2, 8: 3, 9: 2, 10: 1, 11: 1, 13: 2, 14: 3, 15: 2, 16: 1, 17: 2, 19: 2}
	aName      = regexp.MustCompile(`^[a-z][a-z0-9.]{0,7}\z`)
)

// progFaults are the conditions of ProgOk that a Prog breaks, by their names, sorted, each once.
func progFaults(p impl.Prog) []string {
	c := faultFinder{faults: map[string]bool{}, lams: map[int]int{}}
	for i, f := range p.Funs {
		c.ask(f.Lam >= 0 && f.Lam <= 149, "lam")
		c.ask(i == 0 || p.Funs[i-1].Lam < f.Lam, "lam order")
		c.ask(aName.MatchString(f.S), "name")
		for _, s := range f.L {
			c.ask(aName.MatchString(s), "name")
		}
		c.lams[f.Lam] = len(f.L)
	}
	for _, f := range p.Funs {
		c.look(f.Body, 1, append(slices.Clone(f.L), f.S))
	}
	c.look(p.Main, 1, nil)
	c.ask(c.nodes <= 200, "nodes")
	var all []string
	for fault := range c.faults {
		all = append(all, fault)
	}
	slices.Sort(all)
	return all
}

type faultFinder struct {
	faults map[string]bool
	lams   map[int]int
	nodes  int
}

func (c *faultFinder) ask(ok bool, fault string) {
	if !ok {
		c.faults[fault] = true
	}
}

func (c *faultFinder) look(t impl.FTerm, depth int, bound []string) {
	c.nodes++
	c.ask(depth <= 24, "depth")
	if depth > 24 || c.nodes > 200 {
		return
	}
	fields, known := bareFields[t.K]
	c.ask(known, "kind")
	if !known {
		return
	}
	c.ask(len(t.A) == bareParts[t.K], "parts")
	c.lookAlone(t, fields, bound)
	for i, a := range t.A {
		inner := slices.Clone(bound)
		if t.K == impl.TmLet && i == 1 || t.K == impl.TmTry && i == 1 || t.K == impl.TmCase && i == 2 {
			inner = append(inner, t.S, t.Z)
		}
		c.look(a, depth+1, inner)
	}
}

func (c *faultFinder) lookAlone(t impl.FTerm, fields string, bound []string) {
	for field, zero := range map[string]bool{"N": t.N == 0, "S": t.S == "", "Z": t.Z == "", "L": len(t.L) == 0, "C": len(t.Cases) == 0} {
		c.ask(zero || strings.Contains(fields, field), "field")
	}
	names := map[string]string{"S": t.S, "Z": t.Z}
	for field, s := range names {
		c.ask(!strings.Contains(fields, field) || aName.MatchString(s), "name")
	}
	read := func(s string) { c.ask(s != "" && slices.Contains(bound, s), "not bound") }
	switch t.K {
	case impl.TmNum:
		c.ask(t.N >= -1000000 && t.N <= 1000000, "number")
	case impl.TmBool:
		c.ask(t.N == 0 || t.N == 1, "number")
	case impl.TmOp:
		c.ask(t.N >= 1 && t.N <= 5, "number")
	case impl.TmCase:
		c.ask(t.S != t.Z, "one name")
	case impl.TmVar:
		read(t.S)
	case impl.FkMake:
		has, is := c.lams[t.N]
		c.ask(is, "no fun")
		c.ask(!is || has == len(t.L), "count")
		for _, s := range t.L {
			c.ask(aName.MatchString(s), "name")
			read(s)
		}
	case impl.FkCall:
		for i, lam := range t.Cases {
			_, is := c.lams[lam]
			c.ask(is, "no fun in cases")
			c.ask(i == 0 || t.Cases[i-1] < lam, "cases order")
		}
	}
}

// progIs fails when ProgOk is not so, or RunProg and ProgText tell anything of what is not right; faults are those that are broken, with ", " between.
func progIs(t *testing.T, why string, p impl.Prog, faults string) {
	t.Helper()
	if own := strings.Join(progFaults(p), ", "); own != faults {
		t.Errorf("the test's own: %s: %q, not %q", why, own, faults)
	}
	if impl.ProgOk(p) != (faults == "") {
		t.Errorf("%s: ProgOk is %v", why, impl.ProgOk(p))
	}
	if faults == "" {
		asPlainProgText(t, p)
		return
	}
	for _, fuel := range []int{0, 1, 500, impl.MaxFuel} {
		if end := impl.RunProg(p, fuel); end != isNothing {
			t.Errorf("%s: RunProg is %v", why, end)
		}
	}
	if text := impl.ProgText(p); text != "" {
		t.Errorf("%s: ProgText is %q", why, text)
	}
}

func asPlainProgText(t *testing.T, p impl.Prog) {
	t.Helper()
	if got, want := impl.ProgText(p), plainProgText(p); got != want {
		t.Errorf("ProgText: %q, not %q", got, want)
	}
}

// progEnd is a value, or what it ended with instead: 'r' a raise of n, 'f' no fuel.
type progEnd struct {
	v    *plainValue
	over byte
	n    int
}

// progMachine runs a Prog by calls of itself; that it is over is told by what it answers.
type progMachine struct {
	funs        map[int]impl.Fun
	steps, fuel int
	// noCase is how often a call had no case for its record, wrong how often a part was not what is wanted.
	noCase, wrong int
}

// plainRunProg is what RunProg must answer of a right Prog, written anew, and how much of the fuel it takes.
func plainRunProg(p impl.Prog, fuel int) (impl.Outcome, *progMachine) {
	m := &progMachine{funs: map[int]impl.Fun{}, fuel: fuel}
	for _, f := range p.Funs {
		m.funs[f.Lam] = f
	}
	switch end := m.eval(p.Main, nil); end.over {
	case 'r':
		return isRaise(end.n), m
	case 'f':
		return isFuel, m
	default:
		return isValue(plainShown(end.v)), m
	}
}

func (m *progMachine) notWanted() progEnd {
	m.wrong++
	return progEnd{over: 'r', n: -2}
}

func (m *progMachine) eval(t impl.FTerm, env map[string]*plainValue) progEnd {
	if m.steps == m.fuel {
		return progEnd{over: 'f'}
	}
	m.steps++
	switch t.K {
	case impl.TmNum:
		return progEnd{v: &plainValue{kind: 'n', n: t.N}}
	case impl.TmBool:
		return progEnd{v: &plainValue{kind: 'b', n: t.N}}
	case impl.TmNil:
		return progEnd{v: &plainValue{kind: 'e'}}
	case impl.TmVar:
		return progEnd{v: env[t.S]}
	case impl.FkMake:
		var own map[string]*plainValue
		for i, s := range m.funs[t.N].L {
			own = plainWith(own, s, env[t.L[i]])
		}
		return progEnd{v: &plainValue{kind: 'f', n: t.N, env: own}}
	case impl.TmTry:
		first := m.eval(t.A[0], env)
		if first.over != 'r' {
			return first
		}
		return m.eval(t.A[1], plainWith(env, t.S, &plainValue{kind: 'n', n: first.n}))
	}
	var got []*plainValue
	parts := t.A
	if t.K == impl.TmLet || t.K == impl.TmIf || t.K == impl.TmCase {
		parts = t.A[:1]
	}
	for _, a := range parts {
		end := m.eval(a, env)
		if end.over != 0 {
			return end
		}
		got = append(got, end.v)
	}
	return m.whole(t, got, env)
}

func (m *progMachine) whole(t impl.FTerm, got []*plainValue, env map[string]*plainValue) progEnd {
	first := got[0]
	switch t.K {
	case impl.TmLet:
		return m.eval(t.A[1], plainWith(env, t.S, first))
	case impl.TmIf:
		if first.kind == 'b' {
			return m.eval(t.A[2-first.n], env)
		}
	case impl.TmCase:
		switch first.kind {
		case 'e':
			return m.eval(t.A[1], env)
		case 'c':
			return m.eval(t.A[2], plainWith(plainWith(env, t.S, first.a), t.Z, first.b))
		}
	case impl.FkCall:
		if first.kind == 'f' {
			if !slices.Contains(t.Cases, first.n) {
				m.noCase++
				return progEnd{over: 'r', n: -3}
			}
			f := m.funs[first.n]
			return m.eval(f.Body, plainWith(first.env, f.S, got[1]))
		}
	case impl.TmPair:
		return progEnd{v: &plainValue{kind: 'p', a: first, b: got[1]}}
	case impl.TmCons:
		if rest := got[1]; rest.kind == 'c' || rest.kind == 'e' {
			return progEnd{v: &plainValue{kind: 'c', a: first, b: rest}}
		}
	case impl.TmFst, impl.TmSnd:
		if first.kind == 'p' {
			return progEnd{v: []*plainValue{first.a, first.b}[t.K-impl.TmFst]}
		}
	case impl.TmRaise:
		if first.kind == 'n' {
			return progEnd{over: 'r', n: first.n}
		}
	case impl.TmOp:
		if first.kind == 'n' && got[1].kind == 'n' {
			var p plainMachine
			p.op(t.N, first.n, got[1].n)
			if p.up {
				return progEnd{over: 'r', n: p.n}
			}
			return progEnd{v: p.value}
		}
	}
	return m.notWanted()
}

// ranProg fails when a right Prog does not end so with just these steps; or else with less fuel, or with more.
func ranProg(t *testing.T, text string, told string, steps int) {
	t.Helper()
	p := toldProg(text)
	progIs(t, text, p, "")
	want := ends(told)
	if end, m := plainRunProg(p, impl.MaxFuel); end != want || m.steps != steps {
		t.Errorf("the test's own: %s: %v with %d steps, not %v with %d", text, end, m.steps, want, steps)
	}
	ranProgTo(t, text, p, want, steps)
}

func ranProgTo(t *testing.T, what string, p impl.Prog, want impl.Outcome, steps int) {
	t.Helper()
	for _, fuel := range []int{0, 1, steps / 2, steps - 1, steps, steps + 1, impl.MaxFuel - 1, impl.MaxFuel} {
		if fuel < 0 || fuel > impl.MaxFuel {
			continue
		}
		end := want
		if fuel < steps {
			end = isFuel
		}
		if got := impl.RunProg(p, fuel); got != end {
			t.Errorf("%s: RunProg with %d: %v, not %v", what, fuel, got, end)
		}
	}
}

// asPlainRunProg holds RunProg against the test's own with this fuel.
func asPlainRunProg(t *testing.T, p impl.Prog, fuel int) (impl.Outcome, *progMachine) {
	t.Helper()
	want, m := plainRunProg(p, fuel)
	if got := impl.RunProg(p, fuel); got != want {
		t.Errorf("%s: RunProg with %d: %v, not %v", plainProgText(p), fuel, got, want)
	}
	return want, m
}

// defunned fails when Defun of the text does not tell this Prog.
func defunned(t *testing.T, text string, told string) {
	t.Helper()
	term := parsedTerm(t, text)
	want := toldProg(told)
	if own := plainDefun(term); !plainReady(term) || !equalProgs(own, want) {
		t.Errorf("the test's own: %s: %q, not %q", text, plainProgText(own), told)
	}
	got := defunnedTo(t, term, want)
	if lines := strings.ReplaceAll(told, " | ", "\n") + "\n"; impl.ProgText(got) != lines {
		t.Errorf("%s: %q, not %q", text, impl.ProgText(got), lines)
	}
	endsTheSame(t, term, got)
}

func defunnedTo(t *testing.T, term impl.Term, want impl.Prog) impl.Prog {
	t.Helper()
	got, ok := impl.Defun(term)
	if !ok || !equalProgs(got, want) {
		t.Errorf("%s: %v and %q, not %q", plainTermText(term), ok, impl.ProgText(got), plainProgText(want))
	}
	progIs(t, plainTermText(term), got, "")
	toldRight(t, term, got)
	return got
}

// asPlainDefun holds Defun against the test's own.
func asPlainDefun(t *testing.T, term impl.Term) impl.Prog {
	t.Helper()
	return defunnedTo(t, term, plainDefun(term))
}

// toldRight fails when Funs are not those of all TmFns, a record does not have its Fun's names, or a call not its Callees.
func toldRight(t *testing.T, term impl.Term, p impl.Prog) {
	t.Helper()
	text := plainTermText(term)
	byLam := map[int]impl.Fun{}
	var lams []int
	for _, f := range p.Funs {
		byLam[f.Lam] = f
		lams = append(lams, f.Lam)
		if fn, ok := impl.NodeAt(term, f.Lam); !ok || fn.K != impl.TmFn || fn.S != f.S {
			t.Errorf("%s: %d is no function with the argument %s", text, f.Lam, f.S)
		}
		if !noneTwice(f.L) {
			t.Errorf("%s: a name twice in %v", text, f.L)
		}
	}
	if len(lams) != impl.Lambdas(term) || !slices.IsSorted(lams) || len(slices.Compact(slices.Clone(lams))) != len(lams) {
		t.Errorf("%s: Lams %v", text, lams)
	}
	var cases, want [][]int
	nodes := progNodes(&p)
	for _, n := range nodes {
		if n.K == impl.FkMake && !slices.Equal(n.L, byLam[n.N].L) {
			t.Errorf("%s: a record of %d with %v", text, n.N, n.L)
		}
		if n.K == impl.FkCall {
			cases = append(cases, n.Cases)
		}
	}
	if len(nodes) != plainNodes(term) {
		t.Errorf("%s: %d nodes", text, len(nodes))
	}
	f := impl.FlowOf(term)
	for i, n := range plainNodesIn(&term) {
		if n.t.K == impl.TmApp {
			want = append(want, impl.Callees(term, f, i))
		}
	}
	slices.SortFunc(cases, slices.Compare)
	slices.SortFunc(want, slices.Compare)
	if !slices.EqualFunc(cases, want, slices.Equal) {
		t.Errorf("%s: calls with %v, not %v", text, cases, want)
	}
}

// endsTheSame fails when the Prog of a term does not end as the term does, a call has no case, or a TmFix does not take just one more of the fuel.
func endsTheSame(t *testing.T, term impl.Term, p impl.Prog) (impl.Outcome, *progMachine) {
	t.Helper()
	text := plainTermText(term)
	before := impl.Run(term, impl.MaxFuel)
	after, m := asPlainRunProg(t, p, impl.MaxFuel)
	if before.End == 0 || after.End == 0 || !impl.SameEnd(before, after) {
		t.Errorf("%s: ends with %v, not %v: %s", text, after, before, plainProgText(p))
	}
	if m.noCase > 0 {
		t.Errorf("%s: %d calls have no case: %s", text, m.noCase, plainProgText(p))
	}
	if _, steps := plainTrace(term, impl.MaxFuel); steps != m.steps {
		t.Errorf("%s: %d steps, not %d", text, m.steps, steps)
	}
	ranProgTo(t, text, p, after, m.steps)
	return after, m
}

// notDefunned fails when Defun of a term tells anything.
func notDefunned(t *testing.T, why string, term impl.Term) {
	t.Helper()
	if got, ok := impl.Defun(term); ok || !equalProgs(got, impl.Prog{}) {
		t.Errorf("%s: %v and %v", why, ok, got)
	}
}

// progNodes are all terms of a Prog.
func progNodes(p *impl.Prog) []*impl.FTerm {
	var nodes []*impl.FTerm
	var look func(t *impl.FTerm)
	look = func(t *impl.FTerm) {
		nodes = append(nodes, t)
		for i := range t.A {
			look(&t.A[i])
		}
	}
	for i := range p.Funs {
		look(&p.Funs[i].Body)
	}
	look(&p.Main)
	return nodes
}

// evenProg is p in lists of its own, its empty lists nil.
func evenProg(p impl.Prog) impl.Prog {
	even := impl.Prog{Main: evenFTerm(p.Main)}
	for _, f := range p.Funs {
		even.Funs = append(even.Funs, impl.Fun{Lam: f.Lam, L: append([]string(nil), f.L...), S: f.S, Body: evenFTerm(f.Body)})
	}
	return even
}

func evenFTerm(t impl.FTerm) impl.FTerm {
	even := t
	even.L, even.Cases, even.A = append([]string(nil), t.L...), append([]int(nil), t.Cases...), nil
	for _, a := range t.A {
		even.A = append(even.A, evenFTerm(a))
	}
	return even
}

func equalProgs(a, b impl.Prog) bool { return reflect.DeepEqual(evenProg(a), evenProg(b)) }

// roomyProg is p, each of its lists with spare room behind it that holds something.
func roomyProg(p impl.Prog) impl.Prog {
	roomy := impl.Prog{Funs: make([]impl.Fun, len(p.Funs), len(p.Funs)+1), Main: roomyFTerm(p.Main)}
	for i, f := range p.Funs {
		roomy.Funs[i] = impl.Fun{Lam: f.Lam, L: roomyNames(f.L), S: f.S, Body: roomyFTerm(f.Body)}
	}
	roomy.Funs[:cap(roomy.Funs)][len(p.Funs)] = ftFun(-1, "Spare", ftVar("spare"))
	return roomy
}

func roomyNames(names []string) []string {
	return append(append(make([]string, 0, len(names)+2), names...), "Spare", "x")[:len(names)]
}

func roomyFTerm(t impl.FTerm) impl.FTerm {
	roomy := t
	roomy.L = roomyNames(t.L)
	roomy.Cases = append(append(make([]int, 0, len(t.Cases)+2), t.Cases...), -1, 0)[:len(t.Cases)]
	parts := make([]impl.FTerm, 0, len(t.A)+2)
	for _, a := range t.A {
		parts = append(parts, roomyFTerm(a))
	}
	roomy.A = append(parts, impl.FTerm{K: 77, S: "Spare"}, ftVar("spare"))[:len(t.A)]
	return roomy
}

// fullProg copies p, its lists as long as their room.
func fullProg(p impl.Prog) impl.Prog {
	full := impl.Prog{Main: fullFTerm(p.Main)}
	for _, f := range p.Funs[:cap(p.Funs)] {
		full.Funs = append(full.Funs, impl.Fun{Lam: f.Lam, L: slices.Clone(f.L[:cap(f.L)]), S: f.S, Body: fullFTerm(f.Body)})
	}
	return full
}

func fullFTerm(t impl.FTerm) impl.FTerm {
	full := t
	full.L, full.Cases, full.A = slices.Clone(t.L[:cap(t.L)]), slices.Clone(t.Cases[:cap(t.Cases)]), nil
	for _, a := range t.A[:cap(t.A)] {
		full.A = append(full.A, fullFTerm(a))
	}
	return full
}

// progPlaces are the places of all that p's lists hold, and of the room behind.
func progPlaces(p impl.Prog) []any {
	var places []any
	names := func(list []string) {
		room := list[:cap(list)]
		for i := range room {
			places = append(places, &room[i])
		}
	}
	var look func(t impl.FTerm)
	look = func(t impl.FTerm) {
		names(t.L)
		places = append(places, intPlaces(t.Cases)...)
		room := t.A[:cap(t.A)]
		for i := range room {
			places = append(places, &room[i])
		}
		for _, a := range t.A {
			look(a)
		}
	}
	room := p.Funs[:cap(p.Funs)]
	for i := range room {
		places = append(places, &room[i])
		names(room[i].L)
		look(room[i].Body)
	}
	look(p.Main)
	return places
}

// knotter makes ready terms of numbers, in which functions that call themselves stand within each other, and others within these.
type knotter struct {
	r          *rand.Rand
	count      *int
	nums, funs []string
}

func (m knotter) fresh(first string) string {
	*m.count++
	return first + strconv.Itoa(*m.count)
}

func (m knotter) withNum(s string) knotter {
	m.nums = append(slices.Clone(m.nums), s)
	return m
}

func (m knotter) withFun(s string) knotter {
	m.funs = append(slices.Clone(m.funs), s)
	return m
}

func (m knotter) call(argument impl.Term) impl.Term {
	return tmOf(impl.TmApp, tmVar(m.funs[m.r.Intn(len(m.funs))]), argument)
}

func (m knotter) end() impl.Term {
	if len(m.nums) > 0 && m.r.Intn(4) > 0 {
		return tmVar(m.nums[m.r.Intn(len(m.nums))])
	}
	return tmNum(m.r.Intn(6))
}

// fn is a function of one number; itself is its name, if it calls itself.
func (m knotter) fn(itself string, levels int) impl.Term {
	x := m.fresh("x")
	inner := m.withNum(x)
	if itself == "" {
		return tmFn(x, tyInt, inner.num(levels-1))
	}
	base := inner
	base.funs = nil
	return tmFn(x, tyInt, tmOf(impl.TmIf, tmOp(4, tmVar(x), tmNum(1)), base.num(1+m.r.Intn(2)), inner.withFun(itself).num(levels-1)))
}

// argument mostly is one less than a number that is there, so that most loops end.
func (m knotter) argument(levels int) impl.Term {
	if m.r.Intn(4) > 0 {
		return tmOp(2, m.end(), tmNum(1+m.r.Intn(2)))
	}
	return m.num(levels - 1)
}

func (m knotter) num(levels int) impl.Term {
	if levels <= 1 {
		if len(m.funs) > 0 && m.r.Intn(3) > 0 {
			return m.call(tmOp(2, m.end(), tmNum(1)))
		}
		return m.end()
	}
	part := func() impl.Term { return m.num(levels - 1 - m.r.Intn(2)) }
	switch m.r.Intn(14) {
	case 0, 1:
		return tmOp(1+m.r.Intn(3), part(), part())
	case 2:
		return tmOf(impl.TmIf, tmOp(4+m.r.Intn(2), part(), m.end()), part(), part())
	case 3:
		s := m.fresh("y")
		return tmLet(s, 0, part(), m.withNum(s).num(levels-1))
	case 4:
		return tmOf(impl.TmApp, m.fn("", levels), m.argument(levels))
	case 5:
		s := m.fresh("g")
		return tmLet(s, 0, m.fn("", levels), m.withFun(s).num(levels-1))
	case 6:
		s := m.fresh("e")
		return tmTry(s, part(), m.withNum(s).num(levels-1))
	case 7:
		s, z := m.fresh("h"), m.fresh("r")
		return tmCase(s, z, tmOf(impl.TmCons, m.end(), tmNil(tyInt)), m.end(), m.withNum(s).num(levels-1))
	case 8:
		return tmRaise(tyInt, m.end())
	case 9, 10, 11:
		s := m.fresh("f")
		return tmFix(s, 0, tyFun(tyInt, tyInt), m.fn(s, levels), m.withFun(s).num(levels-1))
	}
	if len(m.funs) == 0 {
		return m.end()
	}
	return m.call(m.argument(levels))
}

// knots are ready terms with a type, in which TmFixes stand within functions of TmFixes, found by chance, always the same ones.
func knots(n int) []impl.Term {
	r := rand.New(rand.NewSource(41))
	var all []impl.Term
	for len(all) < n {
		m := knotter{r: r, count: new(int)}
		for range r.Intn(4) {
			m.nums = append(m.nums, m.fresh("a"))
		}
		whole := m.num(5 + r.Intn(7))
		for _, s := range m.nums {
			whole = tmLet(s, 0, tmNum(r.Intn(6)), whole)
		}
		if impl.TermOk(whole) && plainNodes(whole) > 12 && fixesWithin(whole) > 0 {
			all = append(all, whole)
		}
	}
	return all
}

// fixesWithin is how many functions stand within the function of a TmFix.
func fixesWithin(t impl.Term) int {
	count := 0
	for _, n := range plainNodesIn(&t) {
		if n.t.K == impl.TmFix {
			count += len(plainLambdas(n.t.A[0])) - 1
		}
	}
	return count
}

// progMaker makes right Progs, whatever they come to; names hide each other.
type progMaker struct {
	r    *rand.Rand
	funs []impl.Fun
}

func (m progMaker) name() string {
	return []string{"x", "y", "z", "p.q", "abcdefgh"}[m.r.Intn(5)]
}

func (m progMaker) record(names []string) impl.FTerm {
	if len(m.funs) == 0 {
		return ftNum(3)
	}
	f := m.funs[m.r.Intn(len(m.funs))]
	if len(names) == 0 && len(f.L) > 0 {
		return impl.FTerm{K: impl.TmNil}
	}
	made := ftMake(f.Lam)
	for range f.L {
		made.L = append(made.L, names[m.r.Intn(len(names))])
	}
	return made
}

func (m progMaker) end(names []string) impl.FTerm {
	if len(names) > 0 && m.r.Intn(3) > 0 {
		return ftVar(names[m.r.Intn(len(names))])
	}
	ends := []impl.FTerm{ftNum(m.r.Intn(2000001) - 1000000), ftNum(m.r.Intn(4)), {K: impl.TmBool, N: m.r.Intn(2)}, {K: impl.TmNil}, m.record(names), m.record(names)}
	return ends[m.r.Intn(len(ends))]
}

func (m progMaker) cases() []int {
	var cases []int
	for _, f := range m.funs {
		if m.r.Intn(6) > 0 {
			cases = append(cases, f.Lam)
		}
	}
	return cases
}

func (m progMaker) term(names []string, levels int) impl.FTerm {
	if levels <= 1 {
		return m.end(names)
	}
	part := func() impl.FTerm { return m.term(names, levels-1-m.r.Intn(2)) }
	s := m.name()
	in := func(more ...string) impl.FTerm { return m.term(slices.Concat(names, more), levels-1) }
	switch k := 6 + m.r.Intn(14); k {
	case impl.TmLet, 7:
		return ftLet(s, part(), in(s))
	case impl.TmIf:
		return ftOf(k, ftOp(4, ftNum(m.r.Intn(3)), ftNum(1)), part(), part())
	case impl.TmFst, impl.TmSnd:
		return ftOf(k, ftOf(impl.TmPair, part(), part()))
	case impl.TmNil, impl.TmCons:
		return ftOf(impl.TmCons, part(), ftOf(impl.TmNil))
	case impl.TmCase:
		z := m.name()
		if z == s {
			z = "zz"
		}
		return ftCase(s, z, ftOf(impl.TmCons, part(), ftOf(impl.TmNil)), part(), in(s, z))
	case impl.TmOp:
		return ftOp(1+m.r.Intn(5), part(), part())
	case impl.TmRaise:
		return ftOf(k, part())
	case impl.TmTry:
		return ftTry(s, part(), in(s))
	case impl.TmPair:
		return ftOf(k, part(), part())
	}
	fun := m.record(names)
	if m.r.Intn(3) == 0 {
		fun = part()
	}
	return ftCall(fun, part(), m.cases()...)
}

// anyProgs are right Progs, found by chance, always the same ones.
func anyProgs(n int) []impl.Prog {
	r := rand.New(rand.NewSource(43))
	var all []impl.Prog
	for len(all) < n {
		m := progMaker{r: r}
		for lam := range 150 {
			if r.Intn(50) == 0 {
				f := impl.Fun{Lam: lam, S: m.name()}
				for range r.Intn(4) {
					f.L = append(f.L, m.name())
				}
				m.funs = append(m.funs, f)
			}
		}
		var p impl.Prog
		for _, f := range m.funs {
			f.Body = m.term(append(slices.Clone(f.L), f.S), 1+r.Intn(5))
			p.Funs = append(p.Funs, f)
		}
		p.Main = m.term(nil, 1+r.Intn(7))
		if len(progNodes(&p)) <= 200 {
			all = append(all, p)
		}
	}
	return all
}

// spoiling are changes of one term, each with its name.
func spoiling() map[string]func(*impl.FTerm) {
	return map[string]func(*impl.FTerm){
		"K 0": func(t *impl.FTerm) { t.K = 0 }, "K -1": func(t *impl.FTerm) { t.K = -1 }, "K 20": func(t *impl.FTerm) { t.K = 20 }, "K fn": func(t *impl.FTerm) { t.K = impl.TmFn }, "K app": func(t *impl.FTerm) { t.K = impl.TmApp }, "K fix": func(t *impl.FTerm) { t.K = impl.TmFix },
		"K one more": func(t *impl.FTerm) { t.K++ }, "K one less": func(t *impl.FTerm) { t.K-- },
		"N 1": func(t *impl.FTerm) { t.N = 1 }, "N -1": func(t *impl.FTerm) { t.N = -1 }, "N 2": func(t *impl.FTerm) { t.N = 2 }, "N 6": func(t *impl.FTerm) { t.N = 6 }, "N 1000001": func(t *impl.FTerm) { t.N = 1000001 }, "N 0": func(t *impl.FTerm) { t.N = 0 }, "N 149": func(t *impl.FTerm) { t.N = 149 },
		"S x": func(t *impl.FTerm) { t.S = "x" }, "S nothing": func(t *impl.FTerm) { t.S = "" }, "S Big": func(t *impl.FTerm) { t.S = "Big" }, "S w": func(t *impl.FTerm) { t.S = "w" }, "S as Z": func(t *impl.FTerm) { t.S = t.Z }, "S too long": func(t *impl.FTerm) { t.S = "abcdefghi" },
		"Z as S": func(t *impl.FTerm) { t.Z = t.S }, "Z x": func(t *impl.FTerm) { t.Z = "x" }, "Z nothing": func(t *impl.FTerm) { t.Z = "" }, "Z .": func(t *impl.FTerm) { t.Z = "." }, "Z w": func(t *impl.FTerm) { t.Z = "w" },
		"L one more": func(t *impl.FTerm) { t.L = append(slices.Clone(t.L), "x") }, "L less": func(t *impl.FTerm) { t.L = t.L[:max(0, len(t.L)-1)] }, "L other": func(t *impl.FTerm) { t.L = slices.Repeat([]string{"w"}, len(t.L)) }, "L no name": func(t *impl.FTerm) { t.L = slices.Repeat([]string{""}, len(t.L)) }, "L turned": func(t *impl.FTerm) { t.L = slices.Clone(t.L); slices.Reverse(t.L) },
		"Cases 0": func(t *impl.FTerm) { t.Cases = []int{0} }, "Cases -1": func(t *impl.FTerm) { t.Cases = append([]int{-1}, t.Cases...) }, "Cases 150": func(t *impl.FTerm) { t.Cases = append(slices.Clone(t.Cases), 150) }, "Cases none": func(t *impl.FTerm) { t.Cases = nil }, "Cases twice": func(t *impl.FTerm) { t.Cases = slices.Concat(t.Cases, t.Cases) }, "Cases turned": func(t *impl.FTerm) { t.Cases = slices.Clone(t.Cases); slices.Reverse(t.Cases) },
		"A one more": func(t *impl.FTerm) { t.A = append(slices.Clone(t.A), ftNum(1)) }, "A one less": func(t *impl.FTerm) { t.A = t.A[:max(0, len(t.A)-1)] }, "A none": func(t *impl.FTerm) { t.A = nil }, "A turned": func(t *impl.FTerm) { t.A = slices.Clone(t.A); slices.Reverse(t.A) }, "A wrong": func(t *impl.FTerm) { t.A = make([]impl.FTerm, len(t.A)) },
	}
}

// funSpoiling are changes of one Fun, each with its name.
func funSpoiling() map[string]func(*impl.Fun) {
	return map[string]func(*impl.Fun){
		"Lam -1": func(f *impl.Fun) { f.Lam = -1 }, "Lam 150": func(f *impl.Fun) { f.Lam = 150 }, "Lam 0": func(f *impl.Fun) { f.Lam = 0 }, "Lam 149": func(f *impl.Fun) { f.Lam = 149 }, "Lam one more": func(f *impl.Fun) { f.Lam++ },
		"L one more": func(f *impl.Fun) { f.L = append(slices.Clone(f.L), "x") }, "L less": func(f *impl.Fun) { f.L = f.L[:max(0, len(f.L)-1)] }, "L others": func(f *impl.Fun) { f.L = slices.Repeat([]string{"w"}, len(f.L)) }, "L no name": func(f *impl.Fun) { f.L = slices.Repeat([]string{"9"}, len(f.L)) }, "L with none": func(f *impl.Fun) { f.L = append(slices.Clone(f.L), "") },
		"S w": func(f *impl.Fun) { f.S = "w" }, "S nothing": func(f *impl.Fun) { f.S = "" }, "S wrong": func(f *impl.Fun) { f.S = "a b" },
		"no body": func(f *impl.Fun) { f.Body = impl.FTerm{} }, "other body": func(f *impl.Fun) { f.Body = ftNum(7) },
	}
}
