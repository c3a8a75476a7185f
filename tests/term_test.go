package tests

import (
	"reflect"
	"strings"
	"testing"

	"loop.example/g00187/impl"
)

func TestTermConstants(t *testing.T) {
	got := []int{impl.TmNum, impl.TmBool, impl.TmVar, impl.TmFn, impl.TmApp, impl.TmLet, impl.TmFix, impl.TmIf, impl.TmPair, impl.TmFst,
		impl.TmSnd, impl.TmNil, impl.TmCons, impl.TmCase, impl.TmOp, impl.TmRaise, impl.TmTry, impl.MaxNodes, impl.MaxNest}
	want := []int{1, 2, 3, 4, 5, 6, 7, 8, 9, 10, 11, 12, 13, 14, 15, 16, 17, 150, 24}
	if !reflect.DeepEqual(got, want) {
		t.Error(got, want)
	}
}

func TestTermOrdinary(t *testing.T) {
	kinds := map[int]bool{}
	for _, c := range kindCases() {
		kinds[c.term.K] = true
		if !impl.TermOk(c.term) {
			t.Error("TermOk", c.text)
		}
		if got := impl.TermText(c.term); got != c.text {
			t.Error("TermText", got, c.text)
		}
		if got, ok := impl.ParseTerm(c.text); !ok || !equalTerms(got, c.term) {
			t.Error("ParseTerm", c.text, got, ok)
		}
		if got := impl.NodesOf(c.term); got != c.nodes {
			t.Error("NodesOf", c.text, got, c.nodes)
		}
		if !impl.Plain(c.term) {
			t.Error("Plain", c.text)
		}
		if got := strings.Join(impl.FreeOf(c.term), " "); got != c.free {
			t.Error("FreeOf", c.text, got, c.free)
		}
	}
	if len(kinds) != 17 {
		t.Error("the test's own kinds", len(kinds))
	}
}

func TestTermsComeBackOfTheirText(t *testing.T) {
	for _, term := range anyTerms(4000) {
		text := plainTermText(term)
		if !impl.TermOk(term) || impl.TermText(term) != text {
			t.Fatal("TermText", impl.TermText(term), text)
		}
		back, ok := impl.ParseTerm(text)
		if !ok || !equalTerms(back, term) || !impl.SameTerm(back, term) {
			t.Fatal("ParseTerm", text, back, ok)
		}
		if got := impl.NodesOf(term); got != plainNodes(term) {
			t.Fatal("NodesOf", text, got)
		}
		if got := impl.Plain(term); got != !strings.Contains(text, ".") {
			t.Fatal("Plain", text, got)
		}
		if got, want := strings.Join(impl.FreeOf(term), " "), strings.Join(plainFree(term), " "); got != want {
			t.Fatal("FreeOf", text, got, want)
		}
	}
}

func TestSameTermIsSameText(t *testing.T) {
	all := anyTerms(300)
	for _, c := range kindCases() {
		all = append(all, c.term)
	}
	texts := make([]string, len(all))
	for i, term := range all {
		texts[i] = plainTermText(term)
	}
	for i, a := range all {
		for j, b := range all {
			if got := impl.SameTerm(a, b); got != (texts[i] == texts[j]) {
				t.Fatal("SameTerm", texts[i], texts[j], got)
			}
		}
	}
}

// Two that are unlike in one field alone are not the same.
func TestSameTermLooksAtEachField(t *testing.T) {
	for _, c := range [][2]string{
		{"n 1", "n 2"}, {"t", "u"}, {"n 1", "t"}, {"v x 0", "v y 0"}, {"v x 0", "v x 1 i"}, {"v x 1 i", "v x 1 b"}, {"v x 2 i b", "v x 2 i i"},
		{"fn x i n 1", "fn y i n 1"}, {"fn x i n 1", "fn x b n 1"}, {"fn x l i n 1", "fn x l b n 1"}, {"fn x i n 1", "fn x i n 2"},
		{"app n 1 n 2", "pair n 1 n 2"}, {"app n 1 n 2", "app n 1 n 3"}, {"cons n 1 n 2", "cons n 3 n 2"}, {"fst n 1", "snd n 1"},
		{"let x 0 n 1 n 2", "let x 1 n 1 n 2"}, {"let x 0 n 1 n 2", "let y 0 n 1 n 2"}, {"let x 0 n 1 n 2", "try x n 1 n 2"},
		{"fix f 0 i fn x i n 1 n 2", "fix f 0 b fn x i n 1 n 2"}, {"fix f 0 i fn x i n 1 n 2", "fix f 2 i fn x i n 1 n 2"},
		{"case x y n 1 n 2 n 3", "case x z n 1 n 2 n 3"}, {"case x y n 1 n 2 n 3", "case z y n 1 n 2 n 3"}, {"case x y n 1 n 2 n 3", "case x y n 1 n 2 n 4"},
		{"op + n 1 n 2", "op - n 1 n 2"}, {"raise i n 1", "raise b n 1"}, {"nil i", "nil b"}, {"nil i", "nil l i"},
		{"if t n 1 n 2", "if t n 2 n 1"},
	} {
		a, b := parsedTerm(t, c[0]), parsedTerm(t, c[1])
		if impl.SameTerm(a, b) || impl.SameTerm(b, a) || !impl.SameTerm(a, parsedTerm(t, c[0])) {
			t.Error(c)
		}
		deepA, deepB := wrapped(wraps()["if third"], 20, a), wrapped(wraps()["if third"], 20, b)
		if impl.SameTerm(deepA, deepB) || !impl.SameTerm(deepA, wrapped(wraps()["if third"], 20, a)) {
			t.Error("far within", c)
		}
		outA, outB := tmOf(18, a), tmOf(18, b)
		if impl.SameTerm(outA, outB) || !impl.SameTerm(outA, tmOf(18, parsedTerm(t, c[0]))) {
			t.Error("within what is not right", c)
		}
	}
}

func TestSameTermOfWrongTerms(t *testing.T) {
	wrong, again := wrongTerms(), wrongTerms()
	for why, a := range wrong {
		if !impl.SameTerm(a, again[why]) || !impl.SameTerm(a, a) {
			t.Error("as itself", why)
		}
		if impl.SameTerm(a, tmNum(1)) || impl.SameTerm(tmVar("x"), a) {
			t.Error("as a right one", why)
		}
	}
	empty := impl.Term{K: impl.TmApp, Ts: []impl.Ty{}, A: []impl.Term{}, T: impl.Ty{A: []impl.Ty{}}}
	if !impl.SameTerm(impl.Term{K: impl.TmApp}, empty) {
		t.Error("an empty list and nil")
	}
	fst := wraps()["fst"]
	if impl.SameTerm(wrapped(fst, 100000, tmNum(1)), wrapped(fst, 100000, tmNum(2))) || impl.SameTerm(wrapped(fst, 100000, tmNum(1)), wrapped(fst, 99999, tmNum(1))) {
		t.Error("unlike far within")
	}
	if impl.SameTerm(tmShared(200, tmNum(1)), tmShared(200, tmNum(2))) || !impl.SameTerm(tmShared(200, tmNum(1)), tmShared(200, tmNum(1))) {
		t.Error("shared")
	}
	if !impl.SameTerm(tmRound(2), tmRound(3)) || !impl.SameTerm(tmHoldsItself(), tmRound(5)) || impl.SameTerm(tmRound(3), tmShared(100, tmNum(1))) {
		t.Error("round")
	}
	deep := tyLists(100000, tyInt)
	many, others := make([]impl.Term, 2000), make([]impl.Term, 2000)
	for i := range many {
		many[i], others[i] = tmNil(deep), tmNil(deep)
	}
	if !impl.SameTerm(tmOf(impl.TmPair, many...), tmOf(impl.TmPair, others...)) {
		t.Error("a deep type at many places")
	}
	others[0] = tmNil(tyLists(100000, tyBool))
	if impl.SameTerm(tmOf(impl.TmPair, many...), tmOf(impl.TmPair, others...)) {
		t.Error("a deep type that is unlike")
	}
}

// Lists that begin at one place are still unlike when they end at another.
func TestSameTermOfListsAtOnePlace(t *testing.T) {
	room, other := []impl.Term{tmNum(1), tmNum(1), tmNum(2)}, []impl.Term{tmNum(1), tmNum(1), tmNum(1)}
	both := func(room []impl.Term, first, second int) impl.Term {
		return impl.Term{K: 99, A: []impl.Term{{A: room[:first]}, {A: room[:second]}}}
	}
	for first := range 4 {
		for second := range 4 {
			if got := impl.SameTerm(both(room, first, second), both(other, first, second)); got != (first < 3 && second < 3) {
				t.Error(first, second, got)
			}
			if got := impl.SameTerm(both(room, first, second), both(room, second, first)); got != (first == second) {
				t.Error("turned round", first, second, got)
			}
		}
	}
}

func TestTermDepth(t *testing.T) {
	for how, wrap := range wraps() {
		own := plainDepth(wrap(tmVar("x"))) - 1 // a fix brings its function's depth along
		deepest := wrapped(wrap, 24-own, tmVar("x"))
		if plainDepth(deepest) != impl.MaxNest {
			t.Fatal("the test's own depth", how)
		}
		text := plainTermText(deepest)
		if !impl.TermOk(deepest) || impl.TermText(deepest) != text || impl.NodesOf(deepest) != plainNodes(deepest) || !impl.Plain(deepest) {
			t.Error("a depth of MaxNest", how)
		}
		if got, ok := impl.ParseTerm(text); !ok || !equalTerms(got, deepest) {
			t.Error("a depth of MaxNest is read", how, ok)
		}
		deeper := wrap(deepest)
		if impl.TermOk(deeper) || impl.TermText(deeper) != "" || impl.NodesOf(deeper) != 0 || impl.Plain(deeper) || len(impl.FreeOf(deeper)) != 0 {
			t.Error("one deeper than MaxNest", how)
		}
		if got, ok := impl.ParseTerm(plainTermText(deeper)); ok || !zeroTerm(got) {
			t.Error("one deeper than MaxNest is read", how)
		}
	}
	fix := func(body impl.Term) impl.Term { return tmFix("f", 0, tyInt, tmFn("x", tyInt, body), tmNum(1)) }
	for times, want := range map[int]bool{21: true, 22: true, 23: false} {
		term := wrapped(wraps()["fst"], 1, fix(wrapped(wraps()["snd"], times-2, tmNum(2))))
		if plainDepth(term) != times+2 || impl.TermOk(term) != want {
			t.Error("within the function of a fix", times)
		}
		if _, ok := impl.ParseTerm(plainTermText(term)); ok != want {
			t.Error("within the function of a fix, read", times)
		}
	}
}

func TestTermNodes(t *testing.T) {
	for nodes := 1; nodes <= 153; nodes++ {
		term := termOfNodes(nodes)
		text := plainTermText(term)
		if plainNodes(term) != nodes || plainDepth(term) > impl.MaxNest {
			t.Fatal("the test's own term", nodes)
		}
		right := nodes <= 150
		want := 0
		if right {
			want = nodes
		}
		if impl.TermOk(term) != right || impl.NodesOf(term) != want || impl.Plain(term) != right {
			t.Error("TermOk, NodesOf, Plain", nodes)
		}
		if got := impl.TermText(term); right && got != text || !right && got != "" {
			t.Error("TermText", nodes)
		}
		if got, ok := impl.ParseTerm(text); ok != right || right && !equalTerms(got, term) || !right && !zeroTerm(got) {
			t.Error("ParseTerm", nodes, ok)
		}
		if got := len(impl.FreeOf(term)); right && nodes > 3 && got == 0 || !right && got != 0 {
			t.Error("FreeOf", nodes, got)
		}
	}
	last := tmOf(impl.TmIf, termOfNodes(50), termOfNodes(50), termOfNodes(49))
	more := tmOf(impl.TmIf, termOfNodes(50), termOfNodes(50), termOfNodes(50))
	if impl.NodesOf(last) != 150 || impl.NodesOf(more) != 0 {
		t.Error("of three parts", impl.NodesOf(last), impl.NodesOf(more))
	}
}

// The longest text there is: as many nodes as can be, each of them a name with two types of as many nodes as can be.
func TestLongestTermText(t *testing.T) {
	big := tyOfNodes(60)
	var widen func(impl.Term) impl.Term
	widen = func(term impl.Term) impl.Term {
		if term.K == impl.TmVar {
			return tmVar("abcdefgh", big, big)
		}
		wide := impl.Term{K: term.K}
		for _, a := range term.A {
			wide.A = append(wide.A, widen(a))
		}
		return wide
	}
	term := widen(termOfNodes(149))
	text := plainTermText(term)
	if !impl.TermOk(term) || impl.TermText(term) != text {
		t.Error("TermText")
	}
	if got, ok := impl.ParseTerm(text); !ok || !equalTerms(got, term) {
		t.Error("ParseTerm", ok)
	}
	if got, ok := impl.ParseTerm(text + " i"); ok || !zeroTerm(got) {
		t.Error("ParseTerm, one more token")
	}
}

func TestTermNumbers(t *testing.T) {
	for n, want := range map[int]bool{0: true, 1: true, -1: true, 999999: true, -999999: true, 1000000: true, -1000000: true, 1000001: false, -1000001: false, 9999999: false, -9999999: false, 10000000: false} {
		term := tmNum(n)
		if impl.TermOk(term) != want {
			t.Error("TermOk", n)
		}
		if got, ok := impl.ParseTerm(plainTermText(term)); ok != want || want && !equalTerms(got, term) || !want && !zeroTerm(got) {
			t.Error("ParseTerm", n, got, ok)
		}
		if got := impl.TermText(term); want && got != plainTermText(term) || !want && got != "" {
			t.Error("TermText", n, got)
		}
	}
	for n, want := range map[int]bool{-1: false, 0: true, 1: true, 2: true, 3: false, 10: false} {
		for _, term := range []impl.Term{tmLet("x", n, tmNum(1), tmNum(2)), tmFix("f", n, tyV0, tmFn("x", tyInt, tmNum(1)), tmNum(2))} {
			if impl.TermOk(term) != want {
				t.Error("type variables", n)
			}
			if got, ok := impl.ParseTerm(plainTermText(term)); ok != want || want && !equalTerms(got, term) {
				t.Error("type variables, read", n, ok)
			}
		}
	}
	for n, want := range map[int]bool{-1: false, 0: false, 1: true, 2: true, 3: true, 4: true, 5: true, 6: false} {
		if impl.TermOk(tmOp(n, tmNum(1), tmNum(2))) != want {
			t.Error("op", n)
		}
	}
	for n, want := range map[int]bool{-1: false, 0: true, 1: true, 2: false} {
		if impl.TermOk(tmBool(n)) != want {
			t.Error("truth", n)
		}
	}
	for n := range 5 {
		ts := []impl.Ty{tyInt, tyV0, tyBool, tyList(tyInt), tyV1}[:n]
		term := tmVar("x", ts...)
		if impl.TermOk(term) != (n <= 2) {
			t.Error("types of a name", n)
		}
		if got, ok := impl.ParseTerm(plainTermText(term)); ok != (n <= 2) || ok && !equalTerms(got, term) {
			t.Error("types of a name, read", n, ok)
		}
	}
}

// named are the terms in which s stands, each at another place; the last ones within.
func named(s string) []impl.Term {
	n := tmNum(1)
	fn := tmFn("f", tyInt, n)
	return []impl.Term{
		tmVar(s), tmFn(s, tyInt, n), tmLet(s, 0, n, n), tmFix(s, 0, tyInt, fn, n), tmCase(s, "zz", n, n, n), tmCase("zz", s, n, n, n), tmTry(s, n, n),
		tmFix("f", 0, tyInt, tmFn(s, tyInt, n), n), tmOf(impl.TmIf, n, n, tmVar(s)), wrapped(wraps()["case third"], 20, tmTry(s, n, n)),
	}
}

func TestTermNames(t *testing.T) {
	for _, s := range rightNames() {
		for i, term := range named(s) {
			if !impl.TermOk(term) || impl.TermText(term) != plainTermText(term) {
				t.Errorf("%q at %d is refused", s, i)
			}
			if got, ok := impl.ParseTerm(plainTermText(term)); !ok || !equalTerms(got, term) {
				t.Errorf("%q at %d is not read", s, i)
			}
			if got := impl.Plain(term); got != !strings.Contains(s, ".") {
				t.Errorf("Plain of %q at %d: %v", s, i, got)
			}
		}
	}
	for _, s := range wrongNames() {
		for i, term := range named(s) {
			if impl.TermOk(term) || impl.Plain(term) || impl.TermText(term) != "" || impl.NodesOf(term) != 0 || len(impl.FreeOf(term)) != 0 {
				t.Errorf("%.20q at %d is taken", s, i)
			}
			if got, ok := impl.ParseTerm(plainTermText(term)); ok || !zeroTerm(got) {
				t.Errorf("%.20q at %d is read", s, i)
			}
		}
	}
}

func TestWrongTerms(t *testing.T) {
	for why, term := range wrongTerms() {
		if impl.TermOk(term) {
			t.Error("TermOk", why)
		}
		if got := impl.NodesOf(term); got != 0 {
			t.Error("NodesOf", why, got)
		}
		if impl.Plain(term) {
			t.Error("Plain", why)
		}
		if got := impl.TermText(term); got != "" {
			t.Error("TermText", why, got)
		}
		if got := impl.FreeOf(term); len(got) != 0 {
			t.Error("FreeOf", why, got)
		}
	}
}

func TestParseTermWrongTexts(t *testing.T) {
	texts := []string{
		"", " ", "  ", " t", "t ", "  t", "t  ", "n  1", " n 1", "n 1 ", "app  t u", "app t  u", "app t u ", " app t u", "v x  0", "fn  x i t",
		"n", "v", "v x", "v x 1", "v x 2 i", "v x 1 l", "fn", "fn x", "fn x i", "fn x l", "app", "app t", "let", "let x", "let x 0", "let x 0 t", "fix f 0 i", "fix f 0 i fn x i t",
		"if", "if t", "if t u", "pair t", "fst", "snd", "nil", "nil l", "cons t", "case", "case x", "case x y", "case x y t", "case x y t t", "op", "op +", "op + t", "raise", "raise i", "try", "try x", "try x t",
		"t t", "n 1 n 2", "v x 0 i", "v x 1 i i", "fn x i t t", "app t t t", "let x 0 t t t", "fix f 0 i fn x i t t t", "if t t t t", "pair t t t", "fst t t", "snd t t", "nil i i", "cons t t t",
		"case x y t t t t", "op + t t t", "raise i t t", "try x t t t",
		"x", "T", "U", "N 1", "true", "num 1", "var x 0", "lam x i t", "fun x i t", "APP t t", "App t t", "app, t t", "i", "b", "1", "nil", "make", "call", "app t x", "if t t x", "fst fst x", "0", "-", "tt", "ut",
		"n 01", "n 00", "n -0", "n -01", "n +1", "n --1", "n -", "n 1-", "n 1.", "n 1.0", "n 1e3", "n 0x1", "n 1_0", "n 12345678", "n -12345678", "n 10000000", "n 0000001", "n 1000001", "n -1000001", "n 9999999", "n 99999999999999999999999", "n a", "n x", "n t", "n ٣", "n 1\n",
		"v x 00", "v x 01 i", "v x -0", "v x -1", "v x +1 i", "v x 3 i i i", "v x 1 n 1", "v x i", "v x 1 x", "v x 1 v2", "v x a", "v x 9999999", "v x 12345678", "v x 99999999999999999999999",
		"let x -0 t t", "let x 00 t t", "let x 01 t t", "let x -1 t t", "let x 3 t t", "let x t t", "let 0 t t", "let x 0 0 t t", "let x a t t", "let x 0000000 t t",
		"fix f -0 i fn x i t t", "fix f 00 i fn x i t t", "fix f 3 i fn x i t t", "fix f -1 i fn x i t t", "fix f i 0 fn x i t t", "fix f 0 i t fn x i t", "fix f 0 i app fn x i t t t", "fix f 0 fn x i t t", "fix f 0 i v x 0 t",
		"fn x n 1", "fn x x t", "fn x v2 t", "fn x l l l l l l i t", "nil l l l l l l i", "raise v2 t", "raise t", "raise i", "nil t",
		"case x x t t t", "case x t t t", "case x y z t t t", "op ++ t t", "op / t t", "op +- t t", "op < = t t", "op 1 t t", "op +t t", "op == t t", "op *< t t", "op -* t t", "op plus t t", "op x t t", "op \u2212 t t", "op - 1 t",
		"t\n", "\nt", "app\tt t", "app\nt t", "app t\nt", "t\x00", "\x00", "app\u00a0t t", "\xff", "app t \xff", "\ufefft", "v x\t0", "n 1\t", "(t)", "fst(t)",
		strings.Repeat("fst ", 100000) + "t", strings.Repeat("pair ", 100000), strings.Repeat("t ", 100000) + "t", strings.Repeat(" ", 100000), strings.Repeat("t", 100000), strings.Repeat("if t t ", 100000) + "t",
		strings.Repeat("v x 1 ", 100000), "v x 1 " + strings.Repeat("l ", 100000) + "i", "v " + strings.Repeat("x", 1000000) + " 0", "n " + strings.Repeat("1", 1000000), "n " + strings.Repeat("0", 1000000),
		plainTermText(termOfNodes(150)) + " t", plainTermText(termOfNodes(150)) + " ", " " + plainTermText(termOfNodes(150)), strings.TrimSuffix(plainTermText(termOfNodes(150)), " 0"),
		"nil " + plainText(tyOfNodes(61)), "fn x " + plainText(tyOfNodes(63)) + " t", "v x 1 " + plainText(tyOfNodes(61)), "v x 2 i " + plainText(tyOfNodes(61)),
	}
	for _, c := range kindCases() {
		tokens := strings.Split(c.text, " ")
		for i := range tokens {
			texts = append(texts, strings.Join(tokens[:i], " "), strings.Join(tokens[:i], " ")+" ")
			cut := append([]string{}, tokens[:i]...)
			texts = append(texts, strings.Join(append(append(cut, ""), tokens[i:]...), " "))
			if i > 0 {
				texts = append(texts, strings.Join(append(append([]string{}, tokens[:i]...), append([]string{"?"}, tokens[i:]...)...), " "))
			}
		}
		texts = append(texts, c.text+" ", " "+c.text, c.text+" t", c.text+"\n", c.text+" "+c.text)
	}
	for _, s := range texts {
		got, ok := impl.ParseTerm(s)
		if ok || !zeroTerm(got) {
			t.Errorf("ParseTerm(%.60q) answers %v, %v", s, got, ok)
		}
	}
}

// What is read is just what is written: no other text gives a term.
func TestParseTermReadsOnlyTexts(t *testing.T) {
	tokens := []string{"n", "t", "v", "fn", "let", "fix", "fst", "case", "op", "try", "nil", "x", "y", "0", "1", "-1", "i", "+", "01", ""}
	texts := []string{""}
	read := 0
	for length := range 5 {
		var longer []string
		for _, s := range texts {
			for _, token := range tokens {
				text := token
				if length > 0 {
					text = s + " " + token
				}
				longer = append(longer, text)
				term, ok := impl.ParseTerm(text)
				if ok && (impl.TermText(term) != text || !impl.TermOk(term)) || !ok && !zeroTerm(term) {
					t.Fatalf("%q %v %v", text, term, ok)
				}
				if ok {
					read++
				}
			}
		}
		texts = longer
		if length == 3 {
			texts = texts[:len(texts)/4]
		}
	}
	if read < 50 {
		t.Error("too few were read", read)
	}
}

func TestWhatBindsWhat(t *testing.T) {
	for _, c := range []struct{ text, free string }{
		// each binder: bound in one part, free in another of the same term
		{"app fn x i v x 0 v x 0", "x"},
		{"app v x 0 fn x i v x 0", "x"},
		{"let x 0 v x 0 v x 0", "x"},
		{"let x 0 v x 0 n 1", "x"},
		{"let x 0 n 1 v x 0", ""},
		{"let x 2 v x 2 i b v x 2 i b", "x"},
		{"app fix f 0 i fn y i v f 0 v f 0 v f 0", "f"},
		{"fix f 0 i fn y i v f 0 n 1", ""},
		{"fix f 0 i fn y i n 1 v f 0", ""},
		{"fix f 0 i fn y i v y 0 v y 0", "y"},
		{"fix f 2 i fn y i app v f 0 v y 0 app v f 2 i i v y 0", "y"},
		{"fix f 0 i fn f i v f 0 v f 0", ""},
		{"case x y v x 0 n 1 n 2", "x"},
		{"case x y v y 0 n 1 n 2", "y"},
		{"case x y n 1 v x 0 n 2", "x"},
		{"case x y n 1 v y 0 n 2", "y"},
		{"case x y n 1 n 2 v x 0", ""},
		{"case x y n 1 n 2 v y 0", ""},
		{"case x y v y 0 v x 0 pair v x 0 v y 0", "y x"},
		{"case x y v z 0 n 1 pair v x 0 v z 0", "z"},
		{"try x v x 0 v x 0", "x"},
		{"try x v x 0 n 1", "x"},
		{"try x n 1 v x 0", ""},
		{"pair try x n 1 v x 0 v x 0", "x"},
		{"pair let x 0 n 1 v x 0 v x 0", "x"},
		{"pair case x y n 1 n 2 pair v x 0 v y 0 pair v x 0 v y 0", "x y"},
		// what binds nothing
		{"if v a 0 v b 0 v c 0", "a b c"},
		{"pair raise i v x 0 snd v y 0", "x y"},
		{"cons fst v a 0 op < v b 0 v a 0", "a b"},
		{"app v f 0 nil i", "f"},
		// bound twice, one within the other: the inner one being over, the outer one goes on
		{"fn x i pair fn x i v x 0 v x 0", ""},
		{"fn x i fn x b v x 0", ""},
		{"app fn x i fn x i v x 0 v x 0", "x"},
		{"let x 0 n 1 pair let x 0 v x 0 v x 0 v x 0", ""},
		{"let x 0 n 1 let x 0 n 2 v x 0", ""},
		{"pair let x 0 n 1 let x 0 n 2 v x 0 v x 0", "x"},
		{"try x n 1 pair try x n 1 v x 0 v x 0", ""},
		{"case x y n 1 n 2 case y z v x 0 v y 0 pair v x 0 v z 0", ""},
		{"pair case x y n 1 n 2 case y x v x 0 v y 0 n 3 v x 0", "x"},
		{"fix f 0 i fn x i fix f 0 i fn f i v f 0 v f 0 pair v f 0 v x 0", "x"},
		{"fn x i let y 0 v x 0 try z v y 0 case a b v z 0 v z 0 app v x 0 v y 0", ""},
		{"pair fn x i let y 0 v x 0 try z v y 0 v z 0 pair v z 0 pair v y 0 v x 0", "z y x"},
		{"let y 0 fn x i v y 0 v x 0", "y x"},
		// the order of the first ones, each once
		{"pair v b 0 pair v a 0 pair v b 0 v a 0", "b a"},
		{"let x 0 v c 0 pair v b 0 pair v x 0 v c 0", "c b"},
		{"fix f 0 i fn x i v d 0 pair v c 0 v d 0", "d c"},
		{"case x y v c 0 v b 0 v a 0", "c b a"},
		{"try x v c 0 v b 0", "c b"},
		{"app fn x i v z 0 app v a.1 0 v x 0", "z a.1 x"},
		{"pair v ab 0 pair v a 0 v b 0", "ab a b"},
		{"fn x.1 i pair v x.1 0 v x 0", "x"},
		{"fn x i pair v x.1 0 v x 0", "x.1"},
	} {
		term := parsedTerm(t, c.text)
		if got := strings.Join(impl.FreeOf(term), " "); got != c.free {
			t.Errorf("%s: %q, not %q", c.text, got, c.free)
		}
		if got := strings.Join(plainFree(term), " "); got != c.free {
			t.Fatalf("the test's own: %s: %q, not %q", c.text, got, c.free)
		}
	}
}

func TestTermArgumentsStay(t *testing.T) {
	all := anyTerms(200)
	for _, c := range kindCases() {
		all = append(all, c.term)
	}
	for _, term := range wrongFields() {
		all = append(all, term)
	}
	all = append(all, termOfNodes(150), termOfNodes(151), wrapped(wraps()["let second"], 30, tmNum(1)), impl.Term{K: 30, Ts: []impl.Ty{tyList(tyInt), {}}, A: []impl.Term{tmNum(1), {}}})
	for i, term := range all {
		first, second := roomyTerm(term), roomyTerm(all[(i+1)%len(all)])
		kept, keptSecond := fullTerm(first), fullTerm(second)
		same := roomyTerm(term)
		impl.TermOk(first)
		impl.NodesOf(first)
		impl.Plain(first)
		impl.TermText(first)
		impl.FreeOf(first)
		impl.SameTerm(first, second)
		impl.SameTerm(first, same)
		if !reflect.DeepEqual(fullTerm(first), kept) || !reflect.DeepEqual(fullTerm(second), keptSecond) {
			t.Fatal("an argument was written to", term)
		}
	}
}

// What lies behind a list's length is not there.
func TestTermSpareRoomIsNotRead(t *testing.T) {
	for _, term := range anyTerms(300) {
		roomy, text := roomyTerm(term), plainTermText(term)
		if !impl.TermOk(roomy) || impl.TermText(roomy) != text || !impl.SameTerm(roomy, term) || impl.NodesOf(roomy) != impl.NodesOf(term) || impl.Plain(roomy) != impl.Plain(term) {
			t.Fatal(text)
		}
		if strings.Join(impl.FreeOf(roomy), " ") != strings.Join(impl.FreeOf(term), " ") {
			t.Fatal("FreeOf", text)
		}
	}
	for why, term := range wrongFields() {
		if roomy := roomyTerm(term); impl.TermOk(roomy) || !impl.SameTerm(roomy, term) {
			t.Error(why)
		}
	}
	parts := []impl.Term{tmNum(1), tmNum(2)}
	if impl.TermOk(impl.Term{K: impl.TmPair, A: parts[:1]}) || !impl.TermOk(impl.Term{K: impl.TmFst, A: parts[:1]}) {
		t.Error("a part behind the length was taken")
	}
	ts := []impl.Ty{tyInt, {}}
	if !impl.TermOk(impl.Term{K: impl.TmVar, S: "x", Ts: ts[:1]}) {
		t.Error("a type behind the length was asked")
	}
}

func TestTermAnswersAreNewMemory(t *testing.T) {
	all := anyTerms(300)
	for _, c := range kindCases() {
		all = append(all, c.term)
	}
	for _, term := range all {
		text := plainTermText(term)
		first, second := parsedTerm(t, text), parsedTerm(t, text)
		ownPlaces(t, "ParseTerm "+text, placesOf(first), placesOf(second))
		free, again := impl.FreeOf(term), impl.FreeOf(term)
		for i := range free[:cap(free)] {
			free[:cap(free)][i] = "changed"
		}
		if strings.Join(again, " ") != strings.Join(plainFree(term), " ") || plainTermText(term) != text {
			t.Fatal("FreeOf shares its memory", text)
		}
	}
}

func TestChangingATermChangesNothingElse(t *testing.T) {
	text := "let id 1 fn x f v0 l v1 v x 0 case a b v id 2 p i b p i b cons n 1 nil l i try e raise l i n 1 v id 2 l b l b"
	count := len(placesOf(parsedTerm(t, text)))
	if count < 20 {
		t.Fatal("the test's own term", count)
	}
	for i := range count {
		got, other := parsedTerm(t, text), parsedTerm(t, text)
		places := placesOf(got)
		kept := make([]any, len(places))
		for j, place := range places {
			kept[j] = shallow(place)
		}
		switch place := places[i].(type) {
		case *impl.Term:
			place.K, place.S = 50, "changed"
		case *impl.Ty:
			place.K, place.N = 50, 3
		}
		for j, place := range places {
			if j != i && !reflect.DeepEqual(shallow(place), kept[j]) {
				t.Fatal("another part changed", i, j)
			}
		}
		if impl.TermText(other) != text {
			t.Fatal("another answer changed", i)
		}
	}
	names := impl.FreeOf(parsedTerm(t, "pair v x 0 v y 0"))
	names[0] = "changed"
	if names[1] != "y" || strings.Join(impl.FreeOf(parsedTerm(t, "pair v x 0 v y 0")), " ") != "x y" {
		t.Error("FreeOf")
	}
}

// shallow is what stands at a place itself, without its lists.
func shallow(place any) any {
	switch p := place.(type) {
	case *impl.Term:
		return impl.Term{K: p.K, N: p.N, S: p.S, Z: p.Z, T: impl.Ty{K: p.T.K, N: p.T.N}}
	case *impl.Ty:
		return impl.Ty{K: p.K, N: p.N}
	}
	return nil
}
