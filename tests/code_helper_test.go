package tests

import (
	"fmt"
	"math/rand"
	"reflect"
	"slices"
	"strconv"
	"strings"
	"testing"

	"loop.example/g00187/impl"
)

// opFields are the fields that each Op names (T: To).
var opFields = map[int]string{1: "DN", 2: "DN", 3: "D", 4: "DX", 5: "DXYN", 6: "DXY", 7: "DXY", 8: "DNL", 9: "DX", 10: "DX", 11: "XT", 12: "XT", 13: "T", 14: "DXYL", 15: "X", 16: "X", 17: "DT", 18: ""}

// opWords are the Op of each word, its N where the word tells that, and what stands behind it.
var opWords = map[string]struct {
	op, n  int
	behind string
}{
	"num": {1, 0, "DN"}, "bool": {2, 0, "DN"}, "nil": {3, 0, "D"}, "move": {4, 0, "DX"}, "add": {5, 1, "DXY"}, "sub": {5, 2, "DXY"}, "mul": {5, 3, "DXY"}, "less": {5, 4, "DXY"}, "same": {5, 5, "DXY"}, "pair": {6, 0, "DXY"}, "cons": {7, 0, "DXY"}, "make": {8, 0, "DNL"},
	"first": {9, 0, "DX"}, "second": {10, 0, "DX"}, "ifnot": {11, 0, "XT"}, "ifnil": {12, 0, "XT"}, "jump": {13, 0, "T"}, "call": {14, 0, "DXYL"}, "ret": {15, 0, "X"}, "raise": {16, 0, "X"}, "try": {17, 0, "DT"}, "end": {18, 0, ""},
}

func fieldAt(i *impl.Ins, field rune) *int {
	switch field {
	case 'D':
		return &i.D
	case 'X':
		return &i.X
	case 'Y':
		return &i.Y
	case 'N':
		return &i.N
	}
	return &i.To
}

// toldIns reads a word and the numbers behind it: D, X, Y, N, To, L, as far as its Op names them.
func toldIns(text string) impl.Ins {
	r := progReader{strings.Fields(text)}
	word, ok := opWords[r.word()]
	if !ok {
		panic("the test's own: " + text)
	}
	i := impl.Ins{Op: word.op, N: word.n}
	for _, field := range word.behind {
		if field == 'L' {
			for len(r.words) > 0 {
				i.L = append(i.L, r.number())
			}
		} else {
			*fieldAt(&i, field) = r.number()
		}
	}
	if len(r.words) > 0 {
		panic("the test's own: " + text)
	}
	return i
}

func toldList(text string) []impl.Ins {
	var all []impl.Ins
	for _, one := range strings.Split(text, ";") {
		all = append(all, toldIns(one))
	}
	return all
}

// toldCode reads Pieces with "|" between them: "fun", Lam, In and Regs, or "main" and Regs, ":", and its Ins with ";" between; it asks for the form alone.
func toldCode(text string) impl.Code {
	var c impl.Code
	pieces := strings.Split(text, "|")
	for at, piece := range pieces {
		head, ins, ok := strings.Cut(piece, ":")
		r := progReader{strings.Fields(head)}
		word := r.word()
		if !ok || (word == "main") != (at == len(pieces)-1) || word != "main" && word != "fun" {
			panic("the test's own: " + text)
		}
		if word == "main" {
			c.Main = impl.Piece{Lam: -1, Regs: r.number(), Ins: toldList(ins)}
		} else {
			c.Funs = append(c.Funs, impl.Piece{Lam: r.number(), In: r.number(), Regs: r.number(), Ins: toldList(ins)})
		}
	}
	return c
}

// plainInsText is what InsText must answer, written anew.
func plainInsText(i impl.Ins) string {
	s := fmt.Sprintf("%d %d %d %d %d %d", i.Op, i.D, i.X, i.Y, i.N, i.To)
	for _, n := range i.L {
		s += fmt.Sprintf(" %d", n)
	}
	return s
}

// codeText tells all of a Code, right or wrong.
func codeText(c impl.Code) string {
	s := ""
	for _, p := range append(slices.Clone(c.Funs), c.Main) {
		s += fmt.Sprintf("%d in %d regs %d:", p.Lam, p.In, p.Regs)
		for at, i := range p.Ins {
			s += fmt.Sprintf(" [%d] %s", at, plainInsText(i))
		}
		s += "\n"
	}
	return s
}

// plainBlock is the code of a term as if it stood at the place 0, the register that has it, and how many registers are taken then.
type plainBlock struct {
	ins       []impl.Ins
	reg, regs int
}

// plainMoved is code as it is behind so many instructions.
func plainMoved(ins []impl.Ins, by int) []impl.Ins {
	var all []impl.Ins
	for _, i := range ins {
		if strings.Contains(opFields[i.Op], "T") {
			i.To += by
		}
		all = append(all, i)
	}
	return all
}

func (b *plainBlock) add(more ...impl.Ins) {
	b.ins = append(b.ins, plainMoved(more, 0)...)
}

// part is a term behind what there is already.
func (b *plainBlock) part(t impl.FTerm, env map[string]int) int {
	more := plainLowered(t, env, b.regs)
	b.ins = append(b.ins, plainMoved(more.ins, len(b.ins))...)
	b.regs = more.regs
	return more.reg
}

func (b *plainBlock) anew() int {
	b.regs++
	return b.regs - 1
}

func plainEnv(env map[string]int, name string, reg int) map[string]int {
	more := map[string]int{name: reg}
	for s, r := range env {
		if s != name {
			more[s] = r
		}
	}
	return more
}

// ways puts two ways behind what there is, to which this instruction parts them: the first one goes on, the second one is where it goes.
func (b *plainBlock) ways(d int, parts impl.Ins, first func(*plainBlock) int, second func(*plainBlock) int) {
	one := plainBlock{regs: b.regs}
	reg := first(&one)
	other := plainBlock{regs: one.regs}
	last := second(&other)
	from := len(b.ins)
	parts.To = from + 1 + len(one.ins) + 2
	behind := parts.To + len(other.ins) + 1
	b.ins = append(b.ins, parts)
	b.ins = append(b.ins, plainMoved(one.ins, from+1)...)
	b.ins = append(b.ins, impl.Ins{Op: 4, D: d, X: reg}, impl.Ins{Op: 13, To: behind})
	b.ins = append(b.ins, plainMoved(other.ins, parts.To)...)
	b.ins = append(b.ins, impl.Ins{Op: 4, D: d, X: last})
	b.reg, b.regs = d, other.regs
}

// plainLowered is the code of a term, each place counted by how long what is ahead of it is.
func plainLowered(t impl.FTerm, env map[string]int, regs int) plainBlock {
	b := plainBlock{regs: regs}
	part := func(n int, env map[string]int) func(*plainBlock) int {
		return func(b *plainBlock) int { return b.part(t.A[n], env) }
	}
	switch t.K {
	case impl.TmVar:
		b.reg = env[t.S]
		return b
	case impl.TmLet:
		is := b.part(t.A[0], env)
		b.reg = b.part(t.A[1], plainEnv(env, t.S, is))
		return b
	case impl.TmRaise:
		b.add(impl.Ins{Op: 16, X: b.part(t.A[0], env)})
		b.reg = b.anew()
		b.add(impl.Ins{Op: 1, D: b.reg})
		return b
	case impl.TmIf:
		asked := b.part(t.A[0], env)
		b.ways(b.anew(), impl.Ins{Op: 11, X: asked}, part(1, env), part(2, env))
		return b
	case impl.TmCase:
		list := b.part(t.A[0], env)
		b.ways(b.anew(), impl.Ins{Op: 12, X: list}, func(b *plainBlock) int {
			first, second := b.anew(), b.anew()
			b.add(impl.Ins{Op: 9, D: first, X: list}, impl.Ins{Op: 10, D: second, X: list})
			return b.part(t.A[2], plainEnv(plainEnv(env, t.S, first), t.Z, second))
		}, part(1, env))
		return b
	case impl.TmTry:
		d, number := b.anew(), b.anew()
		b.ways(d, impl.Ins{Op: 17, D: number}, func(b *plainBlock) int {
			reg := b.part(t.A[0], env)
			b.add(impl.Ins{Op: 18})
			return reg
		}, part(1, plainEnv(env, t.S, number)))
		return b
	}
	ops := map[int]int{impl.TmNum: 1, impl.TmBool: 2, impl.TmNil: 3, impl.TmOp: 5, impl.TmPair: 6, impl.TmCons: 7, impl.FkMake: 8, impl.TmFst: 9, impl.TmSnd: 10, impl.FkCall: 14}
	i := impl.Ins{Op: ops[t.K], N: t.N, L: append([]int(nil), t.Cases...)}
	for at, a := range t.A {
		*fieldAt(&i, rune("XY"[at])) = b.part(a, env)
	}
	for _, s := range t.L {
		i.L = append(i.L, env[s])
	}
	b.reg = b.anew()
	i.D = b.reg
	b.add(i)
	return b
}

func plainPiece(lam int, names []string, body impl.FTerm) impl.Piece {
	env := map[string]int{}
	for reg, s := range names {
		env[s] = reg
	}
	b := plainLowered(body, env, len(names))
	b.add(impl.Ins{Op: 15, X: b.reg})
	return impl.Piece{Lam: lam, In: len(names), Regs: b.regs, Ins: b.ins}
}

// plainLower is what Lower must answer of a right Prog, if that is right, written anew.
func plainLower(p impl.Prog) impl.Code {
	c := impl.Code{Main: plainPiece(-1, nil, p.Main)}
	for _, f := range p.Funs {
		c.Funs = append(c.Funs, plainPiece(f.Lam, append(slices.Clone(f.L), f.S), f.Body))
	}
	return c
}

// codeFaults are the conditions of CodeOk that a Code breaks, by their names, sorted, each once.
func codeFaults(c impl.Code) []string {
	faults := map[string]bool{}
	ask := func(ok bool, fault string) {
		if !ok {
			faults[fault] = true
		}
	}
	ask(len(c.Funs) <= 200, "many funs")
	ins := map[int]int{}
	for at, p := range c.Funs {
		ask(p.Lam >= 0 && p.Lam <= 149, "lam")
		ask(at == 0 || c.Funs[at-1].Lam < p.Lam, "lam order")
		ask(p.In >= 1, "in")
		ins[p.Lam] = p.In
	}
	ask(c.Main.Lam == -1, "main lam")
	ask(c.Main.In == 0, "main in")
	for _, p := range append(slices.Clone(c.Funs), c.Main) {
		ask(p.Regs >= p.In && p.Regs <= 400, "regs")
		ask(len(p.Ins) >= 1, "no ins")
		ask(len(p.Ins) <= 600, "many ins")
		if len(p.Ins) == 0 || len(p.Ins) > 600 {
			continue
		}
		last := p.Ins[len(p.Ins)-1].Op
		ask(last == 15 || last == 13, "last")
		for _, i := range p.Ins {
			insFaults(ask, p, i, ins)
		}
	}
	return sortedKeys(faults)
}

func insFaults(ask func(bool, string), p impl.Piece, i impl.Ins, ins map[int]int) {
	names, known := opFields[i.Op]
	ask(known, "op")
	if !known {
		return
	}
	for _, field := range "DXYT" {
		n := *fieldAt(&i, field)
		switch {
		case !strings.ContainsRune(names, field):
			ask(n == 0, "field "+string(field))
		case field == 'T':
			ask(n >= 0 && n < len(p.Ins), "to")
		default:
			ask(n >= 0 && n < p.Regs, "register "+string(field))
		}
	}
	limits := map[int][2]int{1: {-1000000, 1000000}, 2: {0, 1}, 5: {1, 5}}
	if i.Op != 8 {
		fault := "number"
		if !strings.Contains(names, "N") {
			fault = "field N"
		}
		ask(i.N >= limits[i.Op][0] && i.N <= limits[i.Op][1], fault)
	}
	switch i.Op {
	case 8:
		in, is := ins[i.N]
		ask(is, "no fun")
		ask(!is || len(i.L) == in-1, "count")
		for _, reg := range i.L {
			ask(reg >= 0 && reg < p.Regs, "register L")
		}
	case 14:
		for at, lam := range i.L {
			_, is := ins[lam]
			ask(is, "no fun in L")
			ask(at == 0 || i.L[at-1] < lam, "order of L")
		}
	default:
		ask(len(i.L) == 0, "field L")
	}
}

func insInAll(c impl.Code) int {
	count := 0
	for _, p := range append(slices.Clone(c.Funs), c.Main) {
		count += len(p.Ins)
	}
	return count
}

// codeIs fails when CodeOk is not so, Count is not right, or RunCode tells anything of what is not right; faults are those that are broken, with ", " between.
func codeIs(t *testing.T, why string, c impl.Code, faults string) {
	t.Helper()
	if own := strings.Join(codeFaults(c), ", "); own != faults {
		t.Errorf("the test's own: %s: %q, not %q", why, own, faults)
	}
	if impl.CodeOk(c) != (faults == "") {
		t.Errorf("%s: CodeOk is %v (%s)", why, impl.CodeOk(c), faults)
	}
	if faults == "" {
		if got := impl.Count(c); got != insInAll(c) {
			t.Errorf("%s: Count is %d, not %d", why, got, insInAll(c))
		}
		if end := impl.RunCode(c, 0); end != isFuel {
			t.Errorf("%s: RunCode is %v", why, end)
		}
		return
	}
	if got := impl.Count(c); got != 0 {
		t.Errorf("%s: Count is %d", why, got)
	}
	for _, fuel := range []int{0, 1, 50, impl.MaxFuel} {
		if end := impl.RunCode(c, fuel); end != isNothing {
			t.Errorf("%s: RunCode is %v", why, end)
		}
	}
}

// codeValue is a number 'n', a truth 'b', a record 'r', a pair 'p', a list 'l' or one that has nothing 'e'.
type codeValue struct {
	kind  byte
	n     int
	parts []*codeValue
}

func codeShown(v *codeValue) string {
	switch v.kind {
	case 'n':
		return fmt.Sprint(v.n)
	case 'b':
		return "ut"[v.n : v.n+1]
	case 'r':
		return "fn"
	case 'p':
		return "(" + codeShown(v.parts[0]) + "," + codeShown(v.parts[1]) + ")"
	case 'e':
		return "[]"
	}
	s := "[" + codeShown(v.parts[0])
	for rest := v.parts[1]; rest.kind == 'l'; rest = rest.parts[1] {
		s += "," + codeShown(rest.parts[0])
	}
	return s + "]"
}

// codeEnd is a value, or what it ended with instead: 'r' a raise of n, 'f' no fuel.
type codeEnd struct {
	v    *codeValue
	over byte
	n    int
}

// codeWalker runs a Piece by a call of itself; what was not written is in no register.
type codeWalker struct {
	code        impl.Code
	fuel, steps int
	begun, deep int
	// noCase is how often a call had no case for its record, wrong how often something was not what is wanted, loose how often a list was put ahead of what is no list; caught is how often a raise went on at a To.
	noCase, wrong, loose, caught int
	// ahead is told of each instruction ahead of it: its place, the registers, and the places of the OpTrys that are not over.
	ahead func(p impl.Piece, at int, regs map[int]*codeValue, open []int)
}

// plainRunCode is what RunCode must answer of a right Code, written anew, and how much of the fuel it takes.
func plainRunCode(c impl.Code, fuel int) (impl.Outcome, *codeWalker) {
	w := &codeWalker{code: c, fuel: fuel}
	return w.run(), w
}

func (w *codeWalker) run() impl.Outcome {
	switch end := w.piece(w.code.Main, nil); end.over {
	case 'r':
		return isRaise(end.n)
	case 'f':
		return isFuel
	default:
		return isValue(codeShown(end.v))
	}
}

func (w *codeWalker) piece(p impl.Piece, in []*codeValue) codeEnd {
	w.begun++
	defer func() { w.begun-- }()
	w.deep = max(w.deep, w.begun)
	if w.begun > 1000 {
		return codeEnd{over: 'f'}
	}
	regs := map[int]*codeValue{}
	for reg, v := range in {
		regs[reg] = v
	}
	var open []int
	for at := 0; ; {
		if w.steps == w.fuel {
			return codeEnd{over: 'f'}
		}
		w.steps++
		if w.ahead != nil {
			w.ahead(p, at, regs, open)
		}
		i := p.Ins[at]
		if i.Op == 15 {
			return codeEnd{v: codeRead(regs, i.X)}
		}
		next := at + 1
		switch end := w.does(i, regs, &next); {
		case end.over == 'f':
			return end
		case end.over == 'r':
			if len(open) == 0 {
				return end
			}
			w.caught++
			try := p.Ins[open[len(open)-1]]
			open = open[:len(open)-1]
			regs[try.D] = &codeValue{kind: 'n', n: end.n}
			next = try.To
		case i.Op == 17:
			open = append(open, at)
		case i.Op == 18 && len(open) > 0:
			open = open[:len(open)-1]
		case end.v != nil:
			regs[i.D] = end.v
		}
		at = next
	}
}

func codeRead(regs map[int]*codeValue, reg int) *codeValue {
	if v := regs[reg]; v != nil {
		return v
	}
	return &codeValue{kind: 'n'}
}

// does tells what an instruction writes, and where it goes on, if that is not the next one.
func (w *codeWalker) does(i impl.Ins, regs map[int]*codeValue, next *int) codeEnd {
	x, y := codeRead(regs, i.X), codeRead(regs, i.Y)
	switch i.Op {
	case 1:
		return codeEnd{v: &codeValue{kind: 'n', n: i.N}}
	case 2:
		return codeEnd{v: &codeValue{kind: 'b', n: i.N}}
	case 3:
		return codeEnd{v: &codeValue{kind: 'e'}}
	case 4:
		return codeEnd{v: x}
	case 6:
		return codeEnd{v: &codeValue{kind: 'p', parts: []*codeValue{x, y}}}
	case 7:
		if y.kind != 'l' && y.kind != 'e' {
			w.loose++
		}
		return codeEnd{v: &codeValue{kind: 'l', parts: []*codeValue{x, y}}}
	case 8:
		made := &codeValue{kind: 'r', n: i.N}
		for _, reg := range i.L {
			made.parts = append(made.parts, codeRead(regs, reg))
		}
		return codeEnd{v: made}
	case 13:
		*next = i.To
		return codeEnd{}
	case 17, 18:
		return codeEnd{}
	}
	return w.asks(i, x, y, next)
}

// asks is of the instructions that want something.
func (w *codeWalker) asks(i impl.Ins, x, y *codeValue, next *int) codeEnd {
	switch {
	case i.Op == 5 && x.kind == 'n' && y.kind == 'n':
		var m plainMachine
		m.op(i.N, x.n, y.n)
		if m.up {
			return codeEnd{over: 'r', n: m.n}
		}
		return codeEnd{v: &codeValue{kind: m.value.kind, n: m.value.n}}
	case (i.Op == 9 || i.Op == 10) && (x.kind == 'p' || x.kind == 'l'):
		return codeEnd{v: x.parts[i.Op-9]}
	case i.Op == 11 && x.kind == 'b':
		if x.n == 0 {
			*next = i.To
		}
		return codeEnd{}
	case i.Op == 12 && (x.kind == 'l' || x.kind == 'e'):
		if x.kind == 'e' {
			*next = i.To
		}
		return codeEnd{}
	case i.Op == 16 && x.kind == 'n':
		return codeEnd{over: 'r', n: x.n}
	case i.Op == 14 && x.kind == 'r':
		if !slices.Contains(i.L, x.n) {
			w.noCase++
			return codeEnd{over: 'r', n: -3}
		}
		at := slices.IndexFunc(w.code.Funs, func(p impl.Piece) bool { return p.Lam == x.n })
		return w.piece(w.code.Funs[at], append(slices.Clone(x.parts), y))
	}
	w.wrong++
	return codeEnd{over: 'r', n: -2}
}

// codeCase is a Code as toldCode reads it, what it ends with, and how much of the fuel it takes.
type codeCase struct {
	text, told string
	steps      int
}

// ranCodes fails when a right Code does not end so with just these steps; or else with less fuel, or with more.
func ranCodes(t *testing.T, cases []codeCase) {
	t.Helper()
	for _, c := range cases {
		code := toldCode(c.text)
		codeIs(t, c.text, code, "")
		want := ends(c.told)
		if end, w := plainRunCode(code, impl.MaxFuel); end != want || w.steps != c.steps {
			t.Errorf("the test's own: %s: %v with %d steps, not %v with %d", c.text, end, w.steps, want, c.steps)
		}
		ranCodeTo(t, c.text, code, want, c.steps)
	}
}

func ranCodeTo(t *testing.T, what string, c impl.Code, want impl.Outcome, steps int) {
	t.Helper()
	for _, fuel := range []int{0, 1, steps / 2, steps - 1, steps, steps + 1, impl.MaxFuel - 1, impl.MaxFuel} {
		if fuel < 0 || fuel > impl.MaxFuel {
			continue
		}
		end := want
		if fuel < steps {
			end = isFuel
		}
		if got := impl.RunCode(c, fuel); got != end {
			t.Errorf("%s: RunCode with %d: %v, not %v", what, fuel, got, end)
		}
	}
}

// asPlainRunCode holds RunCode against the test's own with this fuel.
func asPlainRunCode(t *testing.T, c impl.Code, fuel int) (impl.Outcome, *codeWalker) {
	t.Helper()
	want, w := plainRunCode(c, fuel)
	if got := impl.RunCode(c, fuel); got != want {
		t.Errorf("%s: RunCode with %d: %v, not %v", codeText(c), fuel, got, want)
	}
	return want, w
}

// lowered fails when Lower of the Prog of this text does not tell this Code.
func lowered(t *testing.T, text string, told string) {
	t.Helper()
	p, want := toldProg(text), toldCode(told)
	if own := plainLower(p); !impl.ProgOk(p) || !equalCodes(own, want) {
		t.Errorf("the test's own: %s:\n%s, not\n%s", text, codeText(own), codeText(want))
	}
	loweredTo(t, text, p, want)
	endsAsItsProg(t, p, want)
}

func loweredTo(t *testing.T, what string, p impl.Prog, want impl.Code) impl.Code {
	t.Helper()
	got, ok := impl.Lower(p)
	if !ok || !equalCodes(got, want) {
		t.Errorf("%s: %v and\n%s, not\n%s", what, ok, codeText(got), codeText(want))
	}
	codeIs(t, what, got, "")
	for _, piece := range append(slices.Clone(got.Funs), got.Main) {
		for _, i := range piece.Ins {
			if impl.InsText(i) != plainInsText(i) {
				t.Errorf("%s: %q, not %q", what, impl.InsText(i), plainInsText(i))
			}
		}
	}
	return got
}

// asPlainLower holds Lower against the test's own.
func asPlainLower(t *testing.T, p impl.Prog) impl.Code {
	t.Helper()
	return loweredTo(t, plainProgText(p), p, plainLower(p))
}

// notLowered fails when Lower tells anything.
func notLowered(t *testing.T, why string, p impl.Prog) {
	t.Helper()
	if got, ok := impl.Lower(p); ok || !equalCodes(got, impl.Code{}) {
		t.Errorf("%s: %v and %s", why, ok, codeText(got))
	}
}

// endsAsItsProg holds RunCode against the test's own; where in the Prog nothing is other than what is wanted, both must end the same.
func endsAsItsProg(t *testing.T, p impl.Prog, c impl.Code) (impl.Outcome, *codeWalker) {
	t.Helper()
	before, m := plainRunProg(p, impl.MaxFuel)
	after, w := asPlainRunCode(t, c, impl.MaxFuel)
	if m.wrong == 0 && (after.End == 0 || !impl.SameEnd(before, after)) {
		t.Errorf("%s: ends with %v, not %v:\n%s", plainProgText(p), after, before, codeText(c))
	}
	if m.wrong == 0 && after != isFuel && (w.wrong > 0 || w.loose > 0 || w.noCase != m.noCase) {
		t.Errorf("%s: %d wrong, %d loose, %d calls without a case, not %d", plainProgText(p), w.wrong, w.loose, w.noCase, m.noCase)
	}
	if after != isFuel {
		ranCodeTo(t, plainProgText(p), c, after, w.steps)
	}
	return after, w
}

// evenCode is c in lists of its own, its empty lists nil.
func evenCode(c impl.Code) impl.Code {
	even := impl.Code{Main: evenPiece(c.Main)}
	for _, p := range c.Funs {
		even.Funs = append(even.Funs, evenPiece(p))
	}
	return even
}

func evenPiece(p impl.Piece) impl.Piece {
	even := p
	even.Ins = nil
	for _, i := range p.Ins {
		i.L = append([]int(nil), i.L...)
		even.Ins = append(even.Ins, i)
	}
	return even
}

func equalCodes(a, b impl.Code) bool { return reflect.DeepEqual(evenCode(a), evenCode(b)) }

// roomyCode is c, each of its lists with spare room behind it that holds something.
func roomyCode(c impl.Code) impl.Code {
	roomy := impl.Code{Main: roomyPiece(c.Main)}
	for _, p := range c.Funs {
		roomy.Funs = append(roomy.Funs, roomyPiece(p))
	}
	roomy.Funs = append(roomy.Funs, impl.Piece{Lam: 7, In: -1, Ins: []impl.Ins{{Op: 77}}})[:len(c.Funs)]
	return roomy
}

func roomyPiece(p impl.Piece) impl.Piece {
	roomy := p
	roomy.Ins = make([]impl.Ins, 0, len(p.Ins)+2)
	for _, i := range p.Ins {
		roomy.Ins = append(roomy.Ins, roomyIns(i))
	}
	roomy.Ins = append(roomy.Ins, impl.Ins{Op: 77, L: []int{-1}}, impl.Ins{Op: 15})[:len(p.Ins)]
	return roomy
}

func roomyIns(i impl.Ins) impl.Ins {
	i.L = append(append(make([]int, 0, len(i.L)+2), i.L...), -1, 0)[:len(i.L)]
	return i
}

// fullCode copies c, its lists as long as their room.
func fullCode(c impl.Code) impl.Code {
	full := impl.Code{Main: fullPiece(c.Main)}
	for _, p := range c.Funs[:cap(c.Funs)] {
		full.Funs = append(full.Funs, fullPiece(p))
	}
	return full
}

func fullPiece(p impl.Piece) impl.Piece {
	full := p
	full.Ins = nil
	for _, i := range p.Ins[:cap(p.Ins)] {
		i.L = slices.Clone(i.L[:cap(i.L)])
		full.Ins = append(full.Ins, i)
	}
	return full
}

// codePlaces are the places of all that c's lists hold, and of the room behind.
func codePlaces(c impl.Code) []any {
	var places []any
	look := func(p impl.Piece) {
		room := p.Ins[:cap(p.Ins)]
		for at := range room {
			places = append(places, &room[at])
			places = append(places, intPlaces(room[at].L)...)
		}
	}
	room := c.Funs[:cap(c.Funs)]
	for at := range room {
		places = append(places, &room[at])
		look(room[at])
	}
	look(c.Main)
	return places
}

// codeMaker makes right Codes, whatever they come to; it jumps about, and into and out of what is tried.
type codeMaker struct {
	r    *rand.Rand
	funs []impl.Piece
}

func (m codeMaker) ins(p impl.Piece, places int, last bool) impl.Ins {
	i := impl.Ins{Op: 1 + m.r.Intn(18)}
	if p.Regs == 0 || last && (m.r.Intn(4) == 0) {
		i.Op = 13
	} else if last {
		i.Op = 15
	}
	if i.Op == 8 && len(m.funs) == 0 {
		i.Op = 5
	}
	for _, field := range opFields[i.Op] {
		switch field {
		case 'D', 'X', 'Y':
			*fieldAt(&i, field) = m.r.Intn(p.Regs)
		case 'T':
			i.To = m.r.Intn(places)
		}
	}
	switch i.Op {
	case 1:
		i.N = []int{0, 1, 2, 3, -1, 999999, -1000000, 1000000}[m.r.Intn(8)]
	case 2:
		i.N = m.r.Intn(2)
	case 5:
		i.N = 1 + m.r.Intn(5)
	case 8:
		return m.make(p, i.D)
	case 14:
		for _, f := range m.funs {
			if m.r.Intn(6) > 0 {
				i.L = append(i.L, f.Lam)
			}
		}
	}
	return i
}

func (m codeMaker) make(p impl.Piece, d int) impl.Ins {
	f := m.funs[m.r.Intn(len(m.funs))]
	i := impl.Ins{Op: 8, D: d, N: f.Lam}
	for range f.In - 1 {
		i.L = append(i.L, m.r.Intn(p.Regs))
	}
	return i
}

func (m codeMaker) piece(p impl.Piece) impl.Piece {
	places := 1 + m.r.Intn(25)
	for at := range places {
		i := m.ins(p, places, at == places-1)
		if i.Op >= 11 && i.Op <= 13 && i.To <= at && m.r.Intn(4) > 0 {
			i.To = at + m.r.Intn(places-at)
		}
		// mostly what is called was just made
		if i.Op == 14 && at > 0 && len(m.funs) > 0 && m.r.Intn(4) > 0 {
			p.Ins[at-1] = m.make(p, i.X)
		}
		p.Ins = append(p.Ins, i)
	}
	return p
}

// anyCodes are right Codes, found by chance, always the same ones.
func anyCodes(n int) []impl.Code {
	r := rand.New(rand.NewSource(53))
	var all []impl.Code
	for len(all) < n {
		m := codeMaker{r: r}
		for lam := range 150 {
			if r.Intn(60) == 0 {
				in := 1 + r.Intn(3)
				m.funs = append(m.funs, impl.Piece{Lam: lam, In: in, Regs: in + r.Intn(4)})
			}
		}
		c := impl.Code{Main: m.piece(impl.Piece{Lam: -1, Regs: r.Intn(8)})}
		for _, p := range m.funs {
			c.Funs = append(c.Funs, m.piece(p))
		}
		all = append(all, c)
	}
	return all
}

// fullerCode has each Op, two Funs, and something of each sort to spoil.
func fullerCode() impl.Code {
	return toldCode("fun 3 2 5: add 2 0 1; ifnot 2 3; move 3 2; make 4 3 1; call 2 4 0 3 7; ret 2 | fun 7 1 4: num 1 -1000000; bool 2 1; nil 3; cons 2 1 3; ifnil 2 6; second 3 2; jump 8; raise 1; ret 3 | fun 9 1 1: ret 0 |" +
		"main 6: num 0 5; try 1 9; make 2 3 0; make 3 7; call 4 2 0 3; pair 5 4 3; first 0 5; end; jump 9; sub 1 1 0; less 2 1 0; same 3 1 0; mul 4 1 0; ret 4")
}

// insChanges are changes of one instruction, each with its name.
func insChanges() map[string]func(*impl.Ins) {
	all := map[string]func(*impl.Ins){}
	for _, field := range "DXYNT" {
		for _, n := range []int{-1000001, -1000000, -1, 0, 1, 2, 3, 4, 5, 6, 8, 9, 13, 14, 149, 399, 400, 599, 600, 1000000, 1000001, -1 << 63, 1<<63 - 1} {
			all[string(field)+" "+strconv.Itoa(n)] = func(i *impl.Ins) { *fieldAt(i, field) = n }
		}
	}
	for op := -1; op <= 20; op++ {
		all["Op "+strconv.Itoa(op)] = func(i *impl.Ins) { i.Op = op }
		// with nothing that the Op does not name
		all["just Op "+strconv.Itoa(op)] = func(i *impl.Ins) {
			whole := impl.Ins{Op: op}
			for _, field := range strings.Trim(opFields[op], "L") {
				*fieldAt(&whole, field) = *fieldAt(i, field)
			}
			if strings.Contains(opFields[op], "L") {
				whole.L = i.L
			}
			*i = whole
		}
	}
	for _, list := range [][]int{nil, {0}, {1}, {3}, {7}, {3, 7}, {7, 3}, {3, 3}, {3, 4}, {-1}, {6}, {5}, {0, 0}, {149}, {150}, {3, 7, 7}, {2, 3}} {
		all["L "+fmt.Sprint(list)] = func(i *impl.Ins) { i.L = list }
	}
	all["L one more"] = func(i *impl.Ins) { i.L = append(slices.Clone(i.L), 0) }
	return all
}

// pieceChanges are changes of one Piece, each with its name.
func pieceChanges() map[string]func(*impl.Piece) {
	all := map[string]func(*impl.Piece){}
	for _, n := range []int{-2, -1, 0, 1, 2, 3, 4, 5, 6, 7, 149, 150, 200, 399, 400, 401, -1 << 63, 1<<63 - 1} {
		all["Lam "+strconv.Itoa(n)] = func(p *impl.Piece) { p.Lam = n }
		all["In "+strconv.Itoa(n)] = func(p *impl.Piece) { p.In = n }
		all["Regs "+strconv.Itoa(n)] = func(p *impl.Piece) { p.Regs = n }
	}
	all["no Ins"] = func(p *impl.Piece) { p.Ins = nil }
	all["without the last"] = func(p *impl.Piece) { p.Ins = p.Ins[:len(p.Ins)-1] }
	all["without the first"] = func(p *impl.Piece) { p.Ins = p.Ins[1:] }
	for word, at := range map[string]string{"num 0 0": "num", "jump 0": "jump", "ret 0": "ret", "raise 0": "raise", "end": "end", "call 0 0 0": "call", "ifnot 0 0": "ifnot"} {
		all["one more "+at] = func(p *impl.Piece) { p.Ins = append(slices.Clone(p.Ins), toldIns(word)) }
	}
	for _, n := range []int{600, 601} {
		all[strconv.Itoa(n)+" Ins"] = func(p *impl.Piece) { p.Ins = slices.Repeat([]impl.Ins{{Op: 13}}, n) }
	}
	return all
}

// changedCodes hands out fullerCode with each change of an instruction and of a Piece, and what it breaks; it fails when a condition of CodeOk is never broken alone, or too few are right.
func changedCodes(t *testing.T, look func(why string, c impl.Code, faults []string)) {
	t.Helper()
	alone := map[string]int{}
	right := 0
	count := func(why string, c impl.Code) {
		faults := codeFaults(c)
		switch len(faults) {
		case 0:
			right++
		case 1:
			alone[faults[0]]++
		}
		look(why, c, faults)
	}
	whole := fullerCode()
	for at, p := range piecesOf(&whole) {
		for place := range p.Ins {
			for why, change := range insChanges() {
				c := fullerCode()
				change(&piecesOf(&c)[at].Ins[place])
				count(fmt.Sprint(why, " at ", place, " of ", at), c)
			}
		}
		for why, change := range pieceChanges() {
			c := fullerCode()
			change(piecesOf(&c)[at])
			count(fmt.Sprint(why, " of ", at), c)
		}
	}
	turned, many := fullerCode(), fullerCode()
	slices.Reverse(turned.Funs)
	count("turned", turned)
	many.Funs = slices.Repeat(many.Funs[2:], 201)
	count("201 Funs", many)
	count("nothing", impl.Code{})
	count("whole", whole)
	for _, fault := range []string{"lam", "lam order", "in", "main lam", "main in", "regs", "no ins", "many ins", "last", "op", "field D", "field X", "field Y", "field N", "field T", "field L", "to", "register D", "register X", "register Y", "register L", "number", "count", "no fun", "no fun in L", "order of L"} {
		if alone[fault] == 0 {
			t.Errorf("%q is never alone", fault)
		}
	}
	if right < 300 {
		t.Error("too few", right)
	}
}

func piecesOf(c *impl.Code) []*impl.Piece {
	var all []*impl.Piece
	for at := range c.Funs {
		all = append(all, &c.Funs[at])
	}
	return append(all, &c.Main)
}
