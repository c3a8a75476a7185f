package tests

import (
	"math"
	"math/rand"
	"reflect"
	"strconv"
	"strings"
	"testing"

	"loop.example/g00187/impl"
)

func tmNum(n int) impl.Term  { return impl.Term{K: impl.TmNum, N: n} }
func tmBool(n int) impl.Term { return impl.Term{K: impl.TmBool, N: n} }
func tmVar(s string, ts ...impl.Ty) impl.Term {
	return impl.Term{K: impl.TmVar, S: s, Ts: ts}
}
func tmFn(s string, t impl.Ty, body impl.Term) impl.Term {
	return impl.Term{K: impl.TmFn, S: s, T: t, A: []impl.Term{body}}
}
func tmLet(s string, n int, a, b impl.Term) impl.Term {
	return impl.Term{K: impl.TmLet, S: s, N: n, A: []impl.Term{a, b}}
}
func tmFix(s string, n int, t impl.Ty, a, b impl.Term) impl.Term {
	return impl.Term{K: impl.TmFix, S: s, N: n, T: t, A: []impl.Term{a, b}}
}
func tmNil(t impl.Ty) impl.Term { return impl.Term{K: impl.TmNil, T: t} }
func tmCase(s, z string, a, b, c impl.Term) impl.Term {
	return impl.Term{K: impl.TmCase, S: s, Z: z, A: []impl.Term{a, b, c}}
}
func tmOp(n int, a, b impl.Term) impl.Term {
	return impl.Term{K: impl.TmOp, N: n, A: []impl.Term{a, b}}
}
func tmRaise(t impl.Ty, a impl.Term) impl.Term {
	return impl.Term{K: impl.TmRaise, T: t, A: []impl.Term{a}}
}
func tmTry(s string, a, b impl.Term) impl.Term {
	return impl.Term{K: impl.TmTry, S: s, A: []impl.Term{a, b}}
}

// tmOf is a term of a kind that has nothing but parts.
func tmOf(kind int, parts ...impl.Term) impl.Term { return impl.Term{K: kind, A: parts} }

// termCase is a term with all that the chapter tells of it.
type termCase struct {
	term  impl.Term
	text  string
	nodes int
	free  string
}

// kindCases has each kind, and terms within terms.
func kindCases() []termCase {
	x, y, z := tmVar("x"), tmVar("y"), tmVar("z")
	n := tmNum(7)
	return []termCase{
		{tmNum(0), "n 0", 1, ""},
		{tmNum(12), "n 12", 1, ""},
		{tmNum(-5), "n -5", 1, ""},
		{tmBool(1), "t", 1, ""},
		{tmBool(0), "u", 1, ""},
		{x, "v x 0", 1, "x"},
		{tmVar("n", tyInt), "v n 1 i", 1, "n"},
		{tmVar("fn", tyList(tyV1), tyFun(tyV0, tyBool)), "v fn 2 l v1 f v0 b", 1, "fn"},
		{tmFn("x", tyPair(tyInt, tyV0), x), "fn x p i v0 v x 0", 2, ""},
		{tmFn("x", tyInt, y), "fn x i v y 0", 2, "y"},
		{tmOf(impl.TmApp, x, y), "app v x 0 v y 0", 3, "x y"},
		{tmLet("x", 0, n, x), "let x 0 n 7 v x 0", 3, ""},
		{tmLet("x", 1, n, tmVar("x", tyBool)), "let x 1 n 7 v x 1 b", 3, ""},
		{tmLet("x", 2, y, n), "let x 2 v y 0 n 7", 3, "y"},
		{tmFix("f", 0, tyFun(tyInt, tyInt), tmFn("x", tyInt, x), tmVar("f")), "fix f 0 f i i fn x i v x 0 v f 0", 4, ""},
		{tmFix("f", 1, tyV0, tmFn("x", tyV0, y), z), "fix f 1 v0 fn x v0 v y 0 v z 0", 4, "y z"},
		{tmFix("f", 2, tyV1, tmFn("x", tyV1, tmVar("f")), n), "fix f 2 v1 fn x v1 v f 0 n 7", 4, ""},
		{tmOf(impl.TmIf, x, y, z), "if v x 0 v y 0 v z 0", 4, "x y z"},
		{tmOf(impl.TmPair, x, y), "pair v x 0 v y 0", 3, "x y"},
		{tmOf(impl.TmFst, x), "fst v x 0", 2, "x"},
		{tmOf(impl.TmSnd, x), "snd v x 0", 2, "x"},
		{tmNil(tyInt), "nil i", 1, ""},
		{tmNil(tyFun(tyV0, tyV1)), "nil f v0 v1", 1, ""},
		{tmOf(impl.TmCons, x, y), "cons v x 0 v y 0", 3, "x y"},
		{tmCase("x", "y", z, n, tmOf(impl.TmPair, y, x)), "case x y v z 0 n 7 pair v y 0 v x 0", 6, "z"},
		{tmOp(1, x, y), "op + v x 0 v y 0", 3, "x y"},
		{tmOp(2, x, y), "op - v x 0 v y 0", 3, "x y"},
		{tmOp(3, x, y), "op * v x 0 v y 0", 3, "x y"},
		{tmOp(4, x, y), "op < v x 0 v y 0", 3, "x y"},
		{tmOp(5, x, y), "op = v x 0 v y 0", 3, "x y"},
		{tmRaise(tyList(tyInt), n), "raise l i n 7", 2, ""},
		{tmTry("x", y, x), "try x v y 0 v x 0", 3, "y"},
		{tmOp(3, tmOp(1, tmNum(-1), x), tmOf(impl.TmIf, tmBool(1), y, tmNum(1000000))),
			"op * op + n -1 v x 0 if t v y 0 n 1000000", 8, "x y"},
		{tmLet("id", 1, tmFn("x", tyV0, x), tmOf(impl.TmApp, tmVar("id", tyInt), tmTry("e", tmRaise(tyInt, n), tmVar("e")))),
			"let id 1 fn x v0 v x 0 app v id 1 i try e raise i n 7 v e 0", 9, ""},
		{tmOf(impl.TmFst, tmOf(impl.TmSnd, tmOf(impl.TmPair, tmNil(tyBool), tmOf(impl.TmCons, z, tmCase("a", "b", x, y, x))))),
			"fst snd pair nil b cons v z 0 case a b v x 0 v y 0 v x 0", 10, "z x y"},
	}
}

// plainTermText is what TermText must answer, written anew.
func plainTermText(t impl.Term) string {
	words := []string{"", "n", "t", "v", "fn", "app", "let", "fix", "if", "pair", "fst", "snd", "nil", "cons", "case", "op", "raise", "try"}
	s := words[t.K]
	switch t.K {
	case impl.TmNum:
		s += " " + strconv.Itoa(t.N)
	case impl.TmBool:
		if t.N == 0 {
			s = "u"
		}
	case impl.TmVar:
		s += " " + t.S + " " + strconv.Itoa(len(t.Ts))
		for _, ty := range t.Ts {
			s += " " + plainText(ty)
		}
	case impl.TmFn:
		s += " " + t.S + " " + plainText(t.T)
	case impl.TmLet:
		s += " " + t.S + " " + strconv.Itoa(t.N)
	case impl.TmFix:
		s += " " + t.S + " " + strconv.Itoa(t.N) + " " + plainText(t.T)
	case impl.TmNil, impl.TmRaise:
		s += " " + plainText(t.T)
	case impl.TmCase:
		s += " " + t.S + " " + t.Z
	case impl.TmOp:
		s += " " + []string{"", "+", "-", "*", "<", "="}[t.N]
	case impl.TmTry:
		s += " " + t.S
	}
	for _, a := range t.A {
		s += " " + plainTermText(a)
	}
	return s
}

func plainNodes(t impl.Term) int {
	nodes := 1
	for _, a := range t.A {
		nodes += plainNodes(a)
	}
	return nodes
}

func plainDepth(t impl.Term) int {
	depth := 0
	for _, a := range t.A {
		depth = max(depth, plainDepth(a))
	}
	return depth + 1
}

// plainFree tells the free names from the inside out: those of the parts, but the names that are bound there.
func plainFree(t impl.Term) []string {
	if t.K == impl.TmVar {
		return []string{t.S}
	}
	var free []string
	for i, a := range t.A {
		for _, s := range plainFree(a) {
			bound := false
			switch t.K {
			case impl.TmFn, impl.TmFix:
				bound = s == t.S
			case impl.TmLet, impl.TmTry:
				bound = i == 1 && s == t.S
			case impl.TmCase:
				bound = i == 2 && (s == t.S || s == t.Z)
			}
			if !bound {
				free = append(free, s)
			}
		}
	}
	var once []string
	for _, s := range free {
		if !strings.Contains(" "+strings.Join(once, " ")+" ", " "+s+" ") {
			once = append(once, s)
		}
	}
	return once
}

// anyTerm makes a right term of this many levels at most, by chance.
func anyTerm(r *rand.Rand, levels int) impl.Term {
	names := []string{"x", "y", "z", "x.1", "abcdefgh", "n"}
	tys := []impl.Ty{tyInt, tyBool, tyV1, tyFun(tyV0, tyInt), tyList(tyPair(tyInt, tyBool))}
	name := func() string { return names[r.Intn(len(names))] }
	ty := func() impl.Ty { return tys[r.Intn(len(tys))] }
	part := func() impl.Term { return anyTerm(r, levels-1) }
	kinds := []int{1, 2, 3, 3, 3, 12}
	if levels > 1 {
		kinds = []int{3, 4, 5, 6, 7, 8, 9, 10, 11, 13, 14, 15, 16, 17, 4, 6, 14, 17}
	}
	switch k := kinds[r.Intn(len(kinds))]; k {
	case impl.TmNum:
		return tmNum(r.Intn(2000001) - 1000000)
	case impl.TmBool:
		return tmBool(r.Intn(2))
	case impl.TmVar:
		return tmVar(name(), []impl.Ty{ty(), ty()}[:r.Intn(3)]...)
	case impl.TmNil:
		return tmNil(ty())
	case impl.TmFn:
		return tmFn(name(), ty(), part())
	case impl.TmLet:
		return tmLet(name(), r.Intn(3), part(), part())
	case impl.TmFix:
		if levels == 2 {
			return tmOf(impl.TmFst, part())
		}
		return tmFix(name(), r.Intn(3), ty(), tmFn(name(), ty(), anyTerm(r, levels-2)), part())
	case impl.TmIf:
		return tmOf(k, part(), part(), part())
	case impl.TmFst, impl.TmSnd:
		return tmOf(k, part())
	case impl.TmCase:
		i := r.Intn(len(names))
		return tmCase(names[i], names[(i+1+r.Intn(len(names)-1))%len(names)], part(), part(), part())
	case impl.TmOp:
		return tmOp(1+r.Intn(5), part(), part())
	case impl.TmRaise:
		return tmRaise(ty(), part())
	case impl.TmTry:
		return tmTry(name(), part(), part())
	default:
		return tmOf(k, part(), part())
	}
}

// anyTerms are right terms, found by chance, always the same ones.
func anyTerms(n int) []impl.Term {
	r := rand.New(rand.NewSource(7))
	var all []impl.Term
	for len(all) < n {
		if t := anyTerm(r, 1+r.Intn(6)); plainNodes(t) <= impl.MaxNodes {
			all = append(all, t)
		}
	}
	return all
}

// termOfNodes has this many nodes, and is as flat as can be.
func termOfNodes(nodes int) impl.Term {
	switch nodes {
	case 1:
		return tmVar("x")
	case 2:
		return tmOf(impl.TmFst, tmVar("y"))
	}
	half := (nodes - 1) / 2
	return tmOf(impl.TmPair, termOfNodes(half), termOfNodes(nodes-1-half))
}

// wraps put a term within another one, one level down, each in another place.
func wraps() map[string]func(impl.Term) impl.Term {
	n := tmNum(1)
	return map[string]func(impl.Term) impl.Term{
		"fn":          func(t impl.Term) impl.Term { return tmFn("x", tyInt, t) },
		"app first":   func(t impl.Term) impl.Term { return tmOf(impl.TmApp, t, n) },
		"app second":  func(t impl.Term) impl.Term { return tmOf(impl.TmApp, n, t) },
		"let first":   func(t impl.Term) impl.Term { return tmLet("x", 0, t, n) },
		"let second":  func(t impl.Term) impl.Term { return tmLet("x", 0, n, t) },
		"fix second":  func(t impl.Term) impl.Term { return tmFix("f", 0, tyInt, tmFn("x", tyInt, n), t) },
		"if first":    func(t impl.Term) impl.Term { return tmOf(impl.TmIf, t, n, n) },
		"if second":   func(t impl.Term) impl.Term { return tmOf(impl.TmIf, n, t, n) },
		"if third":    func(t impl.Term) impl.Term { return tmOf(impl.TmIf, n, n, t) },
		"pair first":  func(t impl.Term) impl.Term { return tmOf(impl.TmPair, t, n) },
		"pair second": func(t impl.Term) impl.Term { return tmOf(impl.TmPair, n, t) },
		"fst":         func(t impl.Term) impl.Term { return tmOf(impl.TmFst, t) },
		"snd":         func(t impl.Term) impl.Term { return tmOf(impl.TmSnd, t) },
		"cons first":  func(t impl.Term) impl.Term { return tmOf(impl.TmCons, t, n) },
		"cons second": func(t impl.Term) impl.Term { return tmOf(impl.TmCons, n, t) },
		"case first":  func(t impl.Term) impl.Term { return tmCase("x", "y", t, n, n) },
		"case second": func(t impl.Term) impl.Term { return tmCase("x", "y", n, t, n) },
		"case third":  func(t impl.Term) impl.Term { return tmCase("x", "y", n, n, t) },
		"op first":    func(t impl.Term) impl.Term { return tmOp(1, t, n) },
		"op second":   func(t impl.Term) impl.Term { return tmOp(5, n, t) },
		"raise":       func(t impl.Term) impl.Term { return tmRaise(tyBool, t) },
		"try first":   func(t impl.Term) impl.Term { return tmTry("x", t, n) },
		"try second":  func(t impl.Term) impl.Term { return tmTry("x", n, t) },
	}
}

func wrapped(wrap func(impl.Term) impl.Term, times int, t impl.Term) impl.Term {
	for range times {
		t = wrap(t)
	}
	return t
}

// tmHoldsItself is a pair of a number and itself, without end.
func tmHoldsItself() impl.Term {
	parts := []impl.Term{tmNum(1), {}}
	parts[1] = impl.Term{K: impl.TmPair, A: parts}
	return parts[1]
}

// tmRound holds itself too, but by several nodes before it comes round.
func tmRound(nodes int) impl.Term {
	parts := []impl.Term{tmNum(1), {}}
	parts[1] = impl.Term{K: impl.TmPair, A: parts}
	for range nodes - 1 {
		parts[1] = tmOf(impl.TmPair, tmNum(1), parts[1])
	}
	return parts[1]
}

// tmShared has 2^n ends, all of them at one place.
func tmShared(n int, t impl.Term) impl.Term {
	for range n {
		t = tmOf(impl.TmPair, t, t)
	}
	return t
}

// wrongFields are terms with a field that their kind does not name, each kind with each such field.
func wrongFields() map[string]impl.Term {
	wrong := map[string]impl.Term{}
	names := []string{"", "N", "N", "SY", "STA", "A", "SNA", "SNTA", "A", "A", "A", "A", "T", "A", "SZA", "NA", "TA", "SA"}
	for _, c := range kindCases()[:32] {
		has, text := names[c.term.K], c.text
		if !strings.Contains(has, "N") {
			for _, n := range []int{1, -1, 2} {
				t := c.term
				t.N = n
				wrong[text+": N "+strconv.Itoa(n)] = t
			}
		}
		if !strings.Contains(has, "S") {
			t := c.term
			t.S = "x"
			wrong[text+": S"] = t
		}
		if !strings.Contains(has, "Z") {
			t := c.term
			t.Z = "w"
			wrong[text+": Z"] = t
		}
		if !strings.Contains(has, "T") {
			for name, ty := range map[string]impl.Ty{"T i": tyInt, "T only N": {N: 1}, "T only A": {A: []impl.Ty{tyInt}}, "T wrong": {K: 9}} {
				t := c.term
				t.T = ty
				wrong[text+": "+name] = t
			}
		}
		if !strings.Contains(has, "Y") {
			for name, ty := range map[string]impl.Ty{"Ts i": tyInt, "Ts zero": {}} {
				t := c.term
				t.Ts = []impl.Ty{ty}
				wrong[text+": "+name] = t
			}
		}
		more := c.term
		more.A = append(append([]impl.Term{}, more.A...), tmNum(1))
		wrong[text+": one more A"] = more
		if len(c.term.A) > 0 {
			less := c.term
			less.A = less.A[:len(less.A)-1]
			wrong[text+": one less A"] = less
			none := c.term
			none.A = nil
			wrong[text+": no A"] = none
		}
	}
	return wrong
}

// wrongTerms are not TermOk, each for another reason.
func wrongTerms() map[string]impl.Term {
	n, x := tmNum(1), tmVar("x")
	fn := tmFn("x", tyInt, x)
	wrong := map[string]impl.Term{
		"zero":                  {},
		"kind -1":               {K: -1},
		"kind 0, with all":      {N: 1, S: "x", T: tyInt, A: []impl.Term{n}},
		"kind 18":               {K: impl.TmTry + 1},
		"kind 18, as a pair":    {K: impl.TmTry + 1, A: []impl.Term{n, n}},
		"kind 18, as a try":     {K: impl.TmTry + 1, S: "x", A: []impl.Term{n, n}},
		"kind far off":          {K: math.MinInt},
		"number beyond":         tmNum(1000001),
		"number below":          tmNum(-1000001),
		"greatest number":       tmNum(math.MaxInt),
		"least number":          tmNum(math.MinInt),
		"truth 2":               tmBool(2),
		"truth -1":              tmBool(-1),
		"let -1":                tmLet("x", -1, n, n),
		"let 3":                 tmLet("x", 3, n, n),
		"fix -1":                tmFix("f", -1, tyInt, fn, n),
		"fix 3":                 tmFix("f", 3, tyInt, fn, n),
		"op 0":                  tmOp(0, n, n),
		"op 6":                  tmOp(6, n, n),
		"op -1":                 tmOp(-1, n, n),
		"three types":           tmVar("x", tyInt, tyInt, tyInt),
		"many types":            {K: impl.TmVar, S: "x", Ts: make([]impl.Ty, 100000)},
		"second type wrong":     tmVar("x", tyInt, impl.Ty{}),
		"case of one name":      tmCase("x", "x", n, n, n),
		"fix of no fn":          tmFix("f", 0, tyInt, n, n),
		"fix of a wrong fn":     tmFix("f", 0, tyInt, tmFn("x", tyInt, impl.Term{}), n),
		"fix of a wrong name":   tmFix("f", 0, tyInt, tmFn("X", tyInt, n), n),
		"fix, fn second":        tmFix("f", 0, tyInt, n, fn),
		"fix of a let of fn":    tmFix("f", 0, tyInt, tmLet("y", 0, n, fn), n),
		"pair of many":          {K: impl.TmPair, A: make([]impl.Term, 100000)},
		"151 nodes":             termOfNodes(151),
		"152 nodes":             termOfNodes(152),
		"many nodes":            termOfNodes(5000),
		"deep":                  wrapped(func(t impl.Term) impl.Term { return tmOf(impl.TmFst, t) }, 100000, n),
		"holds itself":          tmHoldsItself(),
		"holds itself by five":  tmRound(5),
		"shared without end":    tmShared(200, n),
		"shared, not too deep":  tmShared(23, n),
		"wrong type far within": tmFn("x", tyLists(5, impl.Ty{K: impl.TyVar, N: 2}), n),
	}
	for why, ty := range wrongTys() {
		wrong["fn: T "+why] = tmFn("x", ty, n)
		wrong["fix: T "+why] = tmFix("f", 0, ty, fn, n)
		wrong["nil: T "+why] = tmNil(ty)
		wrong["raise: T "+why] = tmRaise(ty, n)
		wrong["var: Ts "+why] = tmVar("x", ty)
		wrong["var: second Ts "+why] = tmVar("x", tyV0, ty)
	}
	for _, s := range wrongNames() {
		wrong["var: S "+s] = tmVar(s)
		wrong["fn: S "+s] = tmFn(s, tyInt, n)
		wrong["let: S "+s] = tmLet(s, 0, n, n)
		wrong["fix: S "+s] = tmFix(s, 0, tyInt, fn, n)
		wrong["case: S "+s] = tmCase(s, "x", n, n, n)
		wrong["case: Z "+s] = tmCase("x", s, n, n, n)
		wrong["try: S "+s] = tmTry(s, n, n)
	}
	for why, t := range wrongFields() {
		wrong[why] = t
	}
	for how, wrap := range wraps() {
		wrong["too deep by "+how] = wrapped(wrap, 24, n)
		wrong["zero far within by "+how] = wrapped(wrap, 22, impl.Term{})
		wrong["wrong within by "+how] = wrapped(wrap, 1, tmBool(2))
		wrong["wrong name within by "+how] = wrapped(wrap, 3, tmVar("abcdefghi"))
	}
	return wrong
}

func rightNames() []string {
	return []string{"a", "z", "x9", "a0", "abcdefgh", "a1234567", "z.......", "a.", "a.b", "x.1", "q..", "b0.0", "x.1.2.3"}
}

func wrongNames() []string {
	return []string{"", "abcdefghi", "a12345678", "x.......9", "A", "aB", "Xy", "1", "1a", ".", ".a", "0", "9x", "_", "a_", "a-b", "-", "-a", "a b", " a", "a ", "a\n", "\x00", "a\x00",
		"é", "aé", "\xff", "a\xff", "`", "a`", "{", "a{", "a/", "a:", "a@", "a[", strings.Repeat("a", 100000)}
}

// fullTerm copies t, its lists as long as their room.
func fullTerm(t impl.Term) impl.Term {
	full := t
	full.T = fullTy(t.T)
	full.Ts, full.A = nil, nil
	for _, ty := range t.Ts[:cap(t.Ts)] {
		full.Ts = append(full.Ts, fullTy(ty))
	}
	for _, a := range t.A[:cap(t.A)] {
		full.A = append(full.A, fullTerm(a))
	}
	return full
}

func fullTy(t impl.Ty) impl.Ty {
	full := impl.Ty{K: t.K, N: t.N}
	for _, a := range t.A[:cap(t.A)] {
		full.A = append(full.A, fullTy(a))
	}
	return full
}

// roomyTerm is t, each of its lists with spare room behind it that holds something.
func roomyTerm(t impl.Term) impl.Term {
	roomy := t
	roomy.T, roomy.Ts = roomyTy(t.T), roomyTys(t.Ts)
	parts := make([]impl.Term, len(t.A), len(t.A)+2)
	for i, a := range t.A {
		parts[i] = roomyTerm(a)
	}
	room := parts[:cap(parts)]
	room[len(parts)] = impl.Term{K: 77, S: "Spare", Ts: []impl.Ty{{K: 9}}}
	room[len(parts)+1] = tmVar("spare")
	roomy.A = parts
	return roomy
}

// placesOf are the places of all that t's lists hold, and of the room behind.
func placesOf(t impl.Term) []any {
	places := tyPlaces(t.T.A)
	places = append(places, tyPlaces(t.Ts)...)
	room := t.A[:cap(t.A)]
	for i := range room {
		places = append(places, &room[i])
	}
	for _, a := range t.A {
		places = append(places, placesOf(a)...)
	}
	return places
}

func tyPlaces(ts []impl.Ty) []any {
	var places []any
	room := ts[:cap(ts)]
	for i := range room {
		places = append(places, &room[i])
	}
	for _, ty := range ts {
		places = append(places, tyPlaces(ty.A)...)
	}
	return places
}

// ownPlaces fails when two places of the answer are one, or one of them is one of the arguments.
func ownPlaces(t *testing.T, what string, answer []any, arguments ...[]any) {
	t.Helper()
	seen := map[any]bool{}
	for _, places := range arguments {
		for _, place := range places {
			seen[place] = true
		}
	}
	for _, place := range answer {
		if seen[place] {
			t.Errorf("%s: a list of the answer shares its memory", what)
			return
		}
		seen[place] = true
	}
}

func parsedTerm(t *testing.T, s string) impl.Term {
	t.Helper()
	x, ok := impl.ParseTerm(s)
	if !ok {
		t.Fatalf("ParseTerm(%q) refused", s)
	}
	return x
}

func zeroTerm(t impl.Term) bool {
	return t.K == 0 && t.N == 0 && t.S == "" && t.Z == "" && zeroTy(t.T) && len(t.Ts) == 0 && len(t.A) == 0
}

// evenTerm is t, its empty lists nil, so that DeepEqual takes an empty list and nil as one.
func evenTerm(t impl.Term) impl.Term {
	even := t
	even.T, even.Ts, even.A = evenTy(t.T), nil, nil
	for _, ty := range t.Ts {
		even.Ts = append(even.Ts, evenTy(ty))
	}
	for _, a := range t.A {
		even.A = append(even.A, evenTerm(a))
	}
	return even
}

func evenTy(t impl.Ty) impl.Ty {
	even := impl.Ty{K: t.K, N: t.N}
	for _, a := range t.A {
		even.A = append(even.A, evenTy(a))
	}
	return even
}

func equalTerms(a, b impl.Term) bool { return reflect.DeepEqual(evenTerm(a), evenTerm(b)) }
