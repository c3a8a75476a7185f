package tests

import (
	"fmt"
	"reflect"
	"slices"
	"strings"
	"testing"

	"loop.example/g00187/impl"
)

// usesAre fails when UsesOf of the text, or the test's own, is not this.
func usesAre(t *testing.T, text, s string, want int) {
	t.Helper()
	term := parsedTerm(t, text)
	if own := plainUses(term, s); own != want {
		t.Errorf("the test's own: %s: %d of %s, not %d", text, own, s, want)
	}
	usesOfAre(t, term, s, want)
}

func usesOfAre(t *testing.T, term impl.Term, s string, want int) {
	t.Helper()
	if got := impl.UsesOf(term, s); got != want {
		t.Errorf("%s: %d uses of %q, not %d", plainTermText(term), got, s, want)
	}
	if slices.Contains(impl.FreeOf(term), s) != (want > 0) {
		t.Errorf("%s: %q is free, or not, beside %d uses", plainTermText(term), s, want)
	}
}

func TestUsesOf(t *testing.T) {
	for text, told := range map[string]map[string]int{
		"n 1": {"x": 0, "n": 0}, "t": {"t": 0, "x": 0}, "nil i": {"i": 0, "nil": 0}, "v x 0": {"x": 1, "y": 0, "v": 0}, "v x 1 i": {"x": 1, "i": 0}, "v x 2 f v0 i l b": {"x": 1, "v0": 0}, "v v 0": {"v": 1},
		"fn x i v x 0": {"x": 0}, "fn x i v y 0": {"x": 0, "y": 1}, "fn y i v x 0": {"x": 1, "y": 0}, "fn x i n 1": {"x": 0}, "fn v i v v 0": {"v": 0},
		"app v x 0 v x 0": {"x": 2}, "app v f 0 v x 0": {"x": 1, "f": 1, "y": 0}, "app fn x i v x 0 v x 0": {"x": 1},
		// a use in the first part of a binding of the same name
		"let x 0 v x 0 v x 0": {"x": 1}, "let x 0 v x 0 n 1": {"x": 1}, "let x 0 n 1 v x 0": {"x": 0}, "let y 0 v x 0 v x 0": {"x": 2, "y": 0}, "let x 2 v x 1 i v x 2 i b": {"x": 1}, "let x 0 op + v x 0 v x 0 v x 0": {"x": 2}, "let x 0 let x 0 v x 0 v x 0 v x 0": {"x": 1}, "let x 0 fn y i v x 0 app v x 0 n 1": {"x": 1, "y": 0}, "let x 0 n 1 let x 0 v x 0 v x 0": {"x": 0},
		"fix f 0 i fn x i v f 0 v f 0": {"f": 0, "x": 0}, "fix f 0 i fn x i v x 0 v x 0": {"x": 1, "f": 0}, "fix x 0 i fn y i v x 0 v x 0": {"x": 0}, "fix f 0 i fn y i v x 0 v x 0": {"x": 2}, "fix f 0 i fn x i v x 0 n 1": {"x": 0}, "fix f 1 v0 fn f v0 v f 0 v f 1 i": {"f": 0}, "fix f 0 i fn y i v f 0 v x 0": {"x": 1, "y": 0},
		"if v x 0 v x 0 v x 0": {"x": 3}, "if v x 0 v y 0 v z 0": {"x": 1, "y": 1, "z": 1}, "pair v x 0 v y 0": {"x": 1, "y": 1}, "fst v x 0": {"x": 1}, "snd v x 0": {"x": 1}, "fst snd fst v x 0": {"x": 1}, "cons v x 0 v x 0": {"x": 2}, "cons n 1 v x 0": {"x": 1}, "op * v x 0 v x 0": {"x": 2}, "raise i v x 0": {"x": 1},
		"case x r v x 0 v x 0 v x 0": {"x": 2, "r": 0}, "case h x v x 0 v x 0 v x 0": {"x": 2, "h": 0}, "case h r v x 0 v x 0 v x 0": {"x": 3}, "case h r v h 0 v r 0 v h 0": {"h": 1, "r": 1}, "case h r v r 0 v h 0 pair v h 0 v r 0": {"h": 1, "r": 1}, "case h r v x 0 n 1 v r 0": {"x": 1, "r": 0},
		"try x v x 0 v x 0": {"x": 1}, "try e v x 0 v x 0": {"x": 2}, "try e v e 0 op + v e 0 v e 0": {"e": 1}, "try x n 1 v x 0": {"x": 0},
		// within functions
		"fn y i fn z i op + v x 0 op + v y 0 v x 0": {"x": 2, "y": 0, "z": 0}, "fn y i pair v x 0 fn x i pair v x 0 fn z i v x 0": {"x": 1}, "pair fn x i v x 0 pair v x 0 fn y i v x 0": {"x": 2}, "fix f 0 i fn a i fn b i v x 0 fn c i v x 0": {"x": 2, "f": 0}, "fn x i fn x i v x 0": {"x": 0}, "app fn f i app v f 0 v x 0 fn x i app v f 0 v x 0": {"f": 1, "x": 1},
		// names that are nearly the same
		"pair v xx 0 pair v x.1 0 v x 0": {"x": 1, "xx": 1, "x.1": 1, "x.": 0, "xxx": 0, "1": 0}, "fn xx i v x 0": {"x": 1, "xx": 0}, "let x.1 0 n 1 pair v x.1 0 v x.10 0": {"x.1": 0, "x.10": 1}, "fn abcdefgh i v abcdefg 0": {"abcdefg": 1, "abcdefgh": 0},
	} {
		for s, want := range told {
			usesAre(t, text, s, want)
		}
		for _, s := range slices.Concat(wrongNames(), []string{"nobody", "x 0", "v x 0", text}) {
			usesAre(t, text, s, 0)
		}
	}
	// under each binder, in each part
	under := []string{"1", "01", "01", "11", "11", "001", "001", "01"}
	for i, text := range binderTexts("x", "w") {
		for hole, bound := range under[i] {
			usesAre(t, filledAt(text, hole, "pair v x 0 v x 0", "n 1"), "x", map[rune]int{'0': 2, '1': 0}[bound])
		}
		usesAre(t, filledAll(text, "v x 0"), "x", strings.Count(under[i], "0"))
		usesAre(t, filledAll(text, "fn q i v y 0"), "y", len(under[i]))
	}
}

func TestUsesOfManyTerms(t *testing.T) {
	counts := map[int]int{}
	for _, term := range slices.Concat(anyTerms(2000), nameTerms(200), flowTerms(50)) {
		for _, s := range slices.Concat([]string{"x", "y", "z", "x.1", "n", "nobody"}, impl.Binders(term)) {
			want := plainUses(term, s)
			counts[min(want, 5)]++
			usesOfAre(t, term, s, want)
		}
	}
	if counts[0] < 5000 || counts[1] < 1000 || counts[2] < 300 || counts[5] < 100 {
		t.Error("too few", counts)
	}
	for uses, nodes := range map[int]int{75: 149, 74: 147, 1: 1} {
		term := usedTimes("x", uses)
		if plainNodes(term) != nodes {
			t.Error("the test's own", uses)
		}
		usesOfAre(t, term, "x", uses)
	}
}

// usedTimes has so many uses of a name, and is as flat as can be.
func usedTimes(s string, uses int) impl.Term {
	if uses == 1 {
		return tmVar(s)
	}
	return tmOf(impl.TmPair, usedTimes(s, uses/2), usedTimes(s, uses-uses/2))
}

func TestUsesOfWhatIsNotRight(t *testing.T) {
	for why, term := range wrongTerms() {
		for _, whole := range []impl.Term{term, tmOf(impl.TmPair, tmVar("x"), term), tmOf(impl.TmPair, term, tmVar("x")), tmLet("y", 0, tmVar("x"), term)} {
			for _, s := range []string{"x", "y", "A", "", "abcdefghi"} {
				if got := impl.UsesOf(whole, s); got != 0 {
					t.Error(why, s, got)
				}
			}
		}
	}
	for how, wrap := range wraps() {
		deepest := 23
		if how == "fix second" {
			deepest-- // its function is deeper than where it holds
		}
		for times, want := range map[int]int{deepest - 1: 1, deepest: 1, deepest + 1: 0, deepest + 2: 0} {
			if got := impl.UsesOf(wrapped(wrap, times, tmVar("q")), "q"); got != want {
				t.Error(how, times, got)
			}
		}
	}
	for uses, want := range map[int]int{75: 75, 76: 0, 100: 0} {
		if got := impl.UsesOf(usedTimes("x", uses), "x"); got != want {
			t.Error(uses, got)
		}
	}
}

func TestPutForEachKind(t *testing.T) {
	for _, c := range [][4]string{
		{"v x 0", "x", "n 5", "n 5"}, {"v x 0", "y", "n 5", "v x 0"}, {"v x 2 i l v0", "x", "n 5", "n 5"}, {"v x 0", "x", "v y 2 b i", "v y 2 b i"}, {"n 1", "x", "n 5", "n 1"}, {"t", "x", "n 5", "t"}, {"nil l v1", "x", "n 5", "nil l v1"},
		{"fn y p i v0 v x 0", "x", "n 5", "fn y p i v0 n 5"}, {"fn x i v x 0", "x", "n 5", "fn x i v x 0"}, {"app v x 0 v y 0", "x", "fn z i v z 0", "app fn z i v z 0 v y 0"}, {"app v y 0 v x 0", "x", "n 5", "app v y 0 n 5"}, {"app v x 0 v x 0", "x", "v y 0", "app v y 0 v y 0"},
		{"let x 0 v x 0 v x 0", "x", "n 5", "let x 0 n 5 v x 0"}, {"let y 1 v x 0 v x 0", "x", "fn z v0 v z 0", "let y 1 fn z v0 v z 0 fn z v0 v z 0"}, {"let y 2 n 1 v x 1 i", "x", "op + n 1 n 2", "let y 2 n 1 op + n 1 n 2"}, {"let x 0 let x 0 v x 0 v x 0 v x 0", "x", "t", "let x 0 let x 0 t v x 0 v x 0"},
		{"fix f 0 f i i fn y i v x 0 v x 0", "x", "n 5", "fix f 0 f i i fn y i n 5 n 5"}, {"fix x 0 i fn y i v x 0 v x 0", "x", "n 5", "fix x 0 i fn y i v x 0 v x 0"}, {"fix f 1 v0 fn x v0 v x 0 v x 0", "x", "n 5", "fix f 1 v0 fn x v0 v x 0 n 5"},
		{"if v x 0 v y 0 v x 0", "x", "u", "if u v y 0 u"}, {"pair v x 0 v y 0", "y", "pair n 1 v x 0", "pair v x 0 pair n 1 v x 0"}, {"fst v x 0", "x", "pair n 1 n 2", "fst pair n 1 n 2"}, {"snd v x 0", "x", "raise p i i n 2", "snd raise p i i n 2"}, {"cons v x 0 v y 0", "y", "nil i", "cons v x 0 nil i"},
		{"case h r v x 0 v x 0 v x 0", "x", "v z 0", "case h r v z 0 v z 0 v z 0"}, {"case x r v x 0 v x 0 v x 0", "x", "n 5", "case x r n 5 n 5 v x 0"}, {"case h x v x 0 v x 0 v x 0", "x", "n 5", "case h x n 5 n 5 v x 0"}, {"case h r v h 0 v r 0 v h 0", "h", "n 5", "case h r n 5 v r 0 v h 0"},
		{"op - v x 0 v y 0", "x", "n -5", "op - n -5 v y 0"}, {"op = v x 0 v x 0", "x", "op < n 1 n 2", "op = op < n 1 n 2 op < n 1 n 2"}, {"raise l i v x 0", "x", "n 5", "raise l i n 5"}, {"try e v x 0 v x 0", "x", "app v f 0 n 1", "try e app v f 0 n 1 app v f 0 n 1"}, {"try x v x 0 v x 0", "x", "n 5", "try x n 5 v x 0"},
		// within functions, and names that are bound again within
		{"fn y i fn z i op + v x 0 op + v y 0 v x 0", "x", "n 5", "fn y i fn z i op + n 5 op + v y 0 n 5"}, {"fn y i pair v x 0 fn x i pair v x 0 fn z i v x 0", "x", "n 5", "fn y i pair n 5 fn x i pair v x 0 fn z i v x 0"}, {"app fn x i v x 0 v x 0", "x", "fn x i v x 0", "app fn x i v x 0 fn x i v x 0"}, {"pair let x 0 n 1 v x 0 v x 0", "x", "let x 0 n 2 v x 0", "pair let x 0 n 1 v x 0 let x 0 n 2 v x 0"},
		// binders of what is put bind what they bound
		{"pair v x 0 v y 0", "x", "fn y i v y 0", "pair fn y i v y 0 v y 0"}, {"fn y i v x 0", "x", "fn y i v y 0", "fn y i fn y i v y 0"}, {"fn y i v x 0", "x", "case x y nil i n 1 v y 0", "fn y i case x y nil i n 1 v y 0"}, {"let x 0 n 1 v y 0", "y", "let x 0 n 2 v x 0", "let x 0 n 1 let x 0 n 2 v x 0"}, {"v x 0", "x", "fn x i pair v x 0 v y 0", "fn x i pair v x 0 v y 0"},
		// several names that are free in it
		{"fn a i pair v x 0 v a 0", "x", "pair v y 0 pair v z 0 v y 0", "fn a i pair pair v y 0 pair v z 0 v y 0 v a 0"}, {"pair v x 0 v x.1 0", "x", "v x.1 0", "pair v x.1 0 v x.1 0"}, {"pair v xx 0 v x 0", "xx", "n 5", "pair n 5 v x 0"},
	} {
		putText(t, c[0], c[1], c[2], c[3])
	}
	// whatever the kind, and whatever is put
	for _, c := range kindCases() {
		for _, v := range kindCases() {
			for _, s := range []string{"x", "y", "z", "n", "fn", "q"} {
				asPlainPut(t, c.term, s, v.term)
			}
		}
	}
}

// A name that is free in what is put is not to be bound where it stands; elsewhere it may be.
func TestPutForWhatWouldBeBound(t *testing.T) {
	first := []string{"1", "01", "01", "11", "11", "001", "001", "01"}
	second := []string{"0", "00", "00", "10", "00", "001", "001", "00"}
	met := map[string]int{}
	for i, text := range binderTexts("y", "w") {
		for s, under := range map[string][]string{"y": first, "w": second} {
			for hole, bound := range under[i] {
				for _, use := range []string{"v x 0", "v x 1 i", "pair n 1 v x 0", "fn q i v x 0", "let q 0 v x 0 v q 0", "case q p n 1 n 2 v x 0"} {
					for _, v := range []string{"v " + s + " 0", "v " + s + " 2 i b", "pair n 1 v " + s + " 0", "fn p i op + v p 0 v " + s + " 0", "let " + s + " 0 v " + s + " 0 n 1", "pair v z 0 v " + s + " 0"} {
						whole, want := filledAt(text, hole, use, "n 5"), ""
						if bound == '0' {
							want = strings.NewReplacer("v x 0", v, "v x 1 i", v).Replace(whole)
						}
						putText(t, whole, "x", v, want)
						// around no use nothing is refused, and one that may stand does not help one that may not
						putText(t, "pair v x 0 "+filledAll(text, "n 5"), "x", v, "pair "+v+" "+filledAll(text, "n 5"))
						putText(t, "pair "+filledAll(text, "n 5")+" v x 0", "x", v, "pair "+filledAll(text, "n 5")+" "+v)
						met[asPlainPut(t, parsedTerm(t, "op + v x 0 "+whole), "x", parsedTerm(t, v))]++
						met[asPlainPut(t, parsedTerm(t, "op + "+whole+" v x 0"), "x", parsedTerm(t, v))]++
					}
				}
			}
		}
	}
	if met[""] < 500 || met["bound"] < 500 || met["size"] > 0 {
		t.Error("too few", met)
	}
	for _, c := range [][4]string{
		{"fn y i op + v x 0 v y 0", "x", "v y 0", ""}, {"fn y i op + v x 0 v y 0", "y", "v y 0", "fn y i op + v x 0 v y 0"}, {"fn y i v y 0", "x", "v y 0", "fn y i v y 0"}, {"fn z i fn y i v x 0", "x", "v z 0", ""}, {"fn z i fn y i v x 0", "x", "pair v y 0 v q 0", ""}, {"fn z i fn y i v x 0", "x", "v q 0", "fn z i fn y i v q 0"},
		{"let y 0 v x 0 v y 0", "x", "v y 0", "let y 0 v y 0 v y 0"}, {"let y 0 v x 0 v x 0", "x", "v y 0", ""}, {"try e v x 0 v e 0", "x", "v e 0", "try e v e 0 v e 0"}, {"try e v x 0 v x 0", "x", "v e 0", ""}, {"case h r v x 0 v x 0 v h 0", "x", "pair v h 0 v r 0", "case h r pair v h 0 v r 0 pair v h 0 v r 0 v h 0"}, {"case h r n 1 n 2 v x 0", "x", "v r 0", ""}, {"case h r n 1 n 2 v x 0", "x", "v h 0", ""},
		{"fix f 0 i fn a i v x 0 n 1", "x", "v f 0", ""}, {"fix f 0 i fn a i n 1 v x 0", "x", "v f 0", ""}, {"fix f 0 i fn a i v x 0 n 1", "x", "v a 0", ""}, {"fix f 0 i fn a i n 1 v x 0", "x", "v a 0", "fix f 0 i fn a i n 1 v a 0"},
		// where the name is bound again, nothing is put
		{"fn y i fn x i v x 0", "x", "v y 0", "fn y i fn x i v x 0"}, {"pair v x 0 fn y i fn x i v x 0", "x", "v y 0", "pair v y 0 fn y i fn x i v x 0"}, {"fn y i let x 0 n 1 v x 0", "x", "v y 0", "fn y i let x 0 n 1 v x 0"}, {"fn y i let x 0 v x 0 v x 0", "x", "v y 0", ""}, {"let x 0 v x 0 fn y i v x 0", "x", "v y 0", "let x 0 v y 0 fn y i v x 0"},
		// what is bound within what is put is not free there
		{"fn y i v x 0", "x", "let y 0 n 1 v y 0", "fn y i let y 0 n 1 v y 0"}, {"fn y i v x 0", "x", "let y 0 v y 0 n 1", ""}, {"fn y i v x 0", "x", "fix y 0 i fn q i v y 0 v y 0", "fn y i fix y 0 i fn q i v y 0 v y 0"}, {"fn y i v x 0", "x", "pair fn y i v y 0 v y 0", ""},
	} {
		putText(t, c[0], c[1], c[2], c[3])
	}
}

// A name that is free in what is put, put for itself, changes nothing but its types.
func TestPutForItself(t *testing.T) {
	count := 0
	for _, term := range slices.Concat(anyTerms(800), nameTerms(60)) {
		for _, s := range append(impl.FreeOf(term), "nobody", "x") {
			count += impl.UsesOf(term, s)
			want := evenTerm(term)
			nodes := plainNodesIn(&want)
			for _, use := range plainUsesAt(nodes, s) {
				nodes[use].t.Ts = nil
			}
			putTo(t, term, s, tmVar(s), want)
		}
	}
	if count < 1500 {
		t.Error("too few", count)
	}
	for _, c := range [][4]string{
		{"v x 0", "x", "v x 0", "v x 0"}, {"pair v x 0 v x 0", "x", "pair v x 0 v x 0", "pair pair v x 0 v x 0 pair v x 0 v x 0"}, {"let x 0 v x 0 v x 0", "x", "op + v x 0 n 1", "let x 0 op + v x 0 n 1 v x 0"}, {"fn x i v x 0", "x", "v x 0", "fn x i v x 0"}, {"fn y i v x 0", "x", "fst v x 0", "fn y i fst v x 0"}, {"try x v x 0 v x 0", "x", "v x 1 i", "try x v x 1 i v x 0"}, {"fn y i v x 0", "x", "pair v x 0 v y 0", ""},
	} {
		putText(t, c[0], c[1], c[2], c[3])
	}
}

// What comes may have 150 nodes, and be 24 deep; one more is refused.
func TestPutForLimits(t *testing.T) {
	for uses := 1; uses <= 20; uses++ {
		for put := 1; put <= 80; put++ {
			for _, more := range []int{0, 1} {
				rest := impl.MaxNodes + more - uses*(put-1) - (2*uses - 1) - 1
				if rest < 1 || rest+2*uses > impl.MaxNodes {
					continue
				}
				term := tmOf(impl.TmPair, usedTimes("x", uses), sumOfNodes(rest))
				if why := asPlainPut(t, term, "x", sumOfNodes(put)); (why == "size") != (more == 1) {
					t.Error("nodes", uses, put, more, why)
				}
			}
		}
	}
	for how, wrap := range wraps() {
		for times := range 24 {
			term := wrapped(wrap, times, tmVar("q"))
			if !impl.TermOk(term) {
				continue
			}
			for _, deep := range []int{24 - times, min(25-times, 24)} {
				why := asPlainPut(t, term, "q", wrapped(wraps()["snd"], deep-1, tmNum(3)))
				if (why == "size") != (deep > 24-times) {
					t.Error(how, times, deep, why)
				}
			}
		}
	}
	// where there is no use, what is put may be as great as can be
	for _, term := range []impl.Term{sumOfNodes(150), mostBinders("x", "y"), deepestLets("x"), tmNum(1)} {
		for _, v := range []impl.Term{sumOfNodes(150), mostBinders("x", "y"), deepestLets("x"), termOfNodes(150)} {
			putTo(t, term, "nobody", v, term)
		}
	}
	if why := asPlainPut(t, tmVar("x"), "x", termOfNodes(150)); why != "" {
		t.Error("all of it", why)
	}
	if why := asPlainPut(t, usedTimes("x", 75), "x", termOfNodes(150)); why != "size" {
		t.Error("many nodes", why)
	}
}

func TestPutForWhatIsNotRight(t *testing.T) {
	right := []impl.Term{tmVar("x"), tmNum(1), tmOf(impl.TmPair, tmVar("x"), tmVar("y")), tmFn("x", tyInt, tmVar("x"))}
	wrong := wrongTerms()
	for why, bad := range wrong {
		for _, good := range right {
			for _, s := range []string{"x", "y", "nobody", "", "A"} {
				notPutFor(t, "into "+why, bad, s, good)
				notPutFor(t, "put "+why, good, s, bad)
			}
		}
		notPutFor(t, "both "+why, bad, "x", bad)
		notPutFor(t, "into what has "+why, tmOf(impl.TmPair, tmVar("x"), bad), "x", tmNum(1))
		notPutFor(t, "put what has "+why, tmVar("x"), "x", tmOf(impl.TmPair, tmNum(1), bad))
	}
	if len(wrong) < 500 {
		t.Error("too few", len(wrong))
	}
}

// A name of any kind: one that no term can have has no use.
func TestPutForAnyName(t *testing.T) {
	for _, term := range slices.Concat(anyTerms(60), nameTerms(10)) {
		for _, s := range slices.Concat(wrongNames(), []string{"nobody", "x 0", "v x 0"}) {
			putTo(t, term, s, tmNum(1), term)
			putTo(t, term, s, term, term)
		}
	}
	for _, s := range rightNames() {
		other := "q"
		if s == other {
			other = "p"
		}
		putText(t, "pair v "+s+" 0 fn "+s+" i v "+s+" 0", s, "v "+other+" 0", "pair v "+other+" 0 fn "+s+" i v "+s+" 0")
		putText(t, "fn "+s+" i v "+other+" 0", other, "v "+s+" 0", "")
	}
}

func TestPutForByChance(t *testing.T) {
	t.Parallel()
	met, several := map[string]int{}, 0
	puts := slices.Concat(anyTerms(60), []impl.Term{tmVar("x"), tmVar("z", tyInt), tmNum(4), tmFn("x", tyInt, tmVar("y")), sumOfNodes(60), sumOfNodes(140), sumOfNodes(147), tmOf(impl.TmPair, tmVar("n"), tmVar("x.1"))})
	for i, term := range anyTerms(1500) {
		for _, s := range []string{"x", "y", "z", "x.1", "n"} {
			for k := range 4 {
				met[asPlainPut(t, term, s, puts[(7*i+13*k)%len(puts)])]++
			}
			if impl.UsesOf(term, s) > 1 {
				several++
			}
		}
	}
	if met[""] < 10000 || met["bound"] < 1000 || met["size"] < 200 || several < 500 {
		t.Error("too few", met, several)
	}
}

// What is Pure may stand wherever the name of a TmLet or of a call stands, however often: the type is the same, and the end.
func TestPutForEndsTheSame(t *testing.T) {
	t.Parallel()
	met, ended := map[string]int{}, map[int]int{}
	for _, term := range slices.Concat(knots(150), calledTerms(300), betaTerms(100)) {
		for i, n := range plainNodesIn(&term) {
			s, is, in := n.t.S, n.t, n.t
			switch {
			case n.t.K == impl.TmLet && plainPure(n.t.A[0]):
				is, in = &n.t.A[0], &n.t.A[1]
			case n.t.K == impl.TmApp && n.t.A[0].K == impl.TmFn && plainPure(n.t.A[1]):
				s, is, in = n.t.A[0].S, &n.t.A[1], &n.t.A[0].A[0]
			default:
				continue
			}
			got, ok := impl.PutFor(*in, s, *is)
			if !ok {
				met["refused"]++
				continue
			}
			met[fmt.Sprint(min(impl.UsesOf(*in, s), 3))]++
			whole := evenTerm(term)
			*plainNodesIn(&whole)[i].t = got
			if !impl.TermOk(whole) {
				continue
			}
			ty, code := impl.TypeOf(term)
			if after, c := impl.TypeOf(whole); code == impl.CheckGood && (c != code || !impl.SameTy(after, ty)) {
				t.Errorf("%s: the type %s and %d, not %s: %s", plainTermText(term), impl.TyText(after), c, impl.TyText(ty), plainTermText(whole))
			}
			if code == impl.CheckGood || plainWrong(term, 5000) == 0 {
				ended[endsBeta(t, term, whole, 5000).End]++
			}
		}
	}
	if met["0"] < 100 || met["1"] < 300 || met["2"] < 100 || met["3"] < 50 || ended[impl.EndValue] < 500 || ended[impl.EndRaise] < 50 {
		t.Error("too few", met, ended)
	}
}

// betaBodies have a hole each, in each part of each kind; nothing else is to be put in there.
var betaBodies = []string{
	"#", "fn q i #", "fn q i fn w i pair v q 0 #", "app # n 9", "app n 9 #", "app raise f i i n 1 #", "let q 0 raise i # v q 0", "let q 0 raise i n 9 #", "fix q 0 f i i fn w i # n 9", "fix q 0 f i i fn w i n 9 #", "fix q 0 f i i fn w i app v q 0 # app v q 0 n 1",
	"if # n 8 n 9", "if n 8 # n 9", "if n 8 n 9 #", "pair # n 9", "pair n 9 #", "fst #", "snd #", "cons # n 9", "cons n 9 #", "case q w # n 8 v q 0", "case q w n 7 # v w 0", "case q w n 7 n 8 #", "case q w n 7 n 8 pair v w 0 #",
	"op + # n 9", "op - n 9 #", "op = # n 9", "raise i #", "raise l b fst #", "try q # v q 0", "try q n 9 #", "try q raise i n 9 pair v q 0 #", "fst snd fst #", "app fn q i raise i v q 0 raise i #",
}

// betaPures are Pure ready terms, whose names no body has.
func betaPures() []string {
	var all []string
	for _, text := range append([]string{"fn x i fn y i pair v x 0 v y 0", "pair fn x i v x 0 fn y i v y 0", "cons cons t nil b nil l b"}, pureTexts...) {
		if plainReady(mustTerm(text)) {
			all = append(all, text)
		}
	}
	return all
}

// betaForms name what they have: by a let, and by a call.
func betaForms(is, in string) []string {
	return []string{"let s 0 " + is + " " + in, "app fn s i " + in + " " + is}
}

// once fails when Beta of the text does not tell this.
func once(t *testing.T, text, want string) {
	t.Helper()
	term := parsedTerm(t, text)
	own, what := plainBeta(term)
	if plainTermText(own) != want || (what == "") != (text == want) || !plainReady(term) {
		t.Errorf("the test's own: %s: %q and %s, not %s", text, what, plainTermText(own), want)
	}
	betaTo(t, term, parsedTerm(t, want), text != want)
	asPlainBeta(t, term)
}

func TestBetaOfEachForm(t *testing.T) {
	pures := betaPures()
	if len(pures) < 15 {
		t.Error("too few", len(pures))
	}
	for i, body := range betaBodies {
		for k, is := range pures {
			for _, form := range betaForms(is, filledAll(body, "v s 0")) {
				once(t, form, filledAll(body, is))
			}
			// none
			for _, form := range betaForms(is, filledAll(body, "n 5")) {
				once(t, form, filledAll(body, "n 5"))
			}
			// two, in one place and in two; within a function one more
			if k%3 == 0 {
				other := strings.NewReplacer("q", "q2", "w", "w2").Replace(betaBodies[(i+k)%len(betaBodies)])
				for _, in := range []string{filledAll(body, "pair v s 0 v s 0"), "pair " + filledAll(body, "v s 0") + " " + filledAll(other, "v s 0"), filledAll(body, "fn u i pair v s 0 v s 0")} {
					for _, form := range betaForms(is, in) {
						asPlainBeta(t, parsedTerm(t, form))
						if got, _ := impl.Beta(parsedTerm(t, form)); !strings.Contains(impl.TermText(got), " v s 0") || impl.UsesOf(parsedTerm(t, in), "s") != 2 {
							t.Errorf("%s: %s", form, impl.TermText(got))
						}
					}
				}
			}
		}
	}
}

// What is not Pure stays where it is, be its name used or not.
func TestBetaOfWhatIsNotPure(t *testing.T) {
	count := 0
	for _, text := range append([]string{"pair fn x i v x 0 raise i n 1", "let y 0 raise i n 1 n 2", "if t n 1 n 2", "op + n 1 n 2", "fst pair n 1 n 2", "case h r nil i n 1 n 2", "try e n 1 n 2", "fix f 0 f i i fn x i v x 0 v f 0"}, otherTexts...) {
		if !plainReady(mustTerm(text)) {
			continue
		}
		if _, what := plainBeta(mustTerm(text)); what != "" {
			continue
		}
		count++
		for _, body := range betaBodies {
			for _, in := range []string{"v s 0", "n 5", "pair v s 0 v s 0"} {
				for _, form := range betaForms(text, filledAll(body, in)) {
					noBeta(t, form)
				}
			}
		}
	}
	if count < 20 {
		t.Error("too few", count)
	}
	// what is no form of either kind
	for _, text := range []string{
		"n 1", "t", "nil i", "fn x i v x 0", "app n 1 n 2", "fix f 0 f i i fn x i v x 0 n 1", "fix f 0 f i i fn x i v x 0 app v f 0 n 1", "try e n 1 v e 0", "try e n 1 n 2", "case h r nil i n 1 v h 0", "case h r cons n 1 nil i n 2 v h 0", "fst pair n 1 n 2", "if t n 1 n 2", "op + n 1 n 2", "pair fn x i v x 0 n 1", "raise i n 1",
		"app if t fn x i v x 0 fn y i v y 0 n 1", "app fst pair fn x i v x 0 n 1 n 2", "app let x 0 raise i n 1 fn y i v y 0 n 2", "app fix f 0 f i i fn x i v x 0 v f 0 n 1", "app app fn x i fn y i v x 0 raise i n 1 n 2", "fn f f i i app v f 0 n 1", "app raise f i i n 1 n 2", "try e app fn x i v x 0 raise i n 1 v e 0", "app pair fn x i v x 0 n 1 n 2", "cons fn x i v x 0 nil f i i",
	} {
		noBeta(t, text)
	}
}

// Step by step, until there is none.
func TestBetaStepByStep(t *testing.T) {
	for _, steps := range [][]string{
		{"let a1 0 fn a2 i op + v a2 0 n 1 app v a1 0 n 4", "app fn a2 i op + v a2 0 n 1 n 4", "op + n 4 n 1"},
		{"let x 0 n 1 v x 0", "n 1"}, {"let x 0 n 1 n 2", "n 2"}, {"app fn x i v x 0 n 1", "n 1"}, {"app fn x i n 2 n 1", "n 2"}, {"let x 0 n 1 op + v x 0 v x 0"}, {"app fn x i op + v x 0 v x 0 n 1"}, {"let a1 0 op + n 1 n 2 v a1 0"}, {"app fn a1 i v a1 0 op + n 1 n 2"},
		// the outer one is ahead of those within
		{"let x 0 n 1 let y 0 n 2 op - v x 0 v y 0", "let y 0 n 2 op - n 1 v y 0", "op - n 1 n 2"}, {"let x 0 n 1 let y 0 v x 0 let z 0 v y 0 v z 0", "let y 0 n 1 let z 0 v y 0 v z 0", "let z 0 n 1 v z 0", "n 1"}, {"app fn x i app fn y i op - v x 0 v y 0 n 2 n 1", "app fn y i op - n 1 v y 0 n 2", "op - n 1 n 2"}, {"let x 0 fn y i let z 0 v y 0 v z 0 app v x 0 n 1", "app fn y i let z 0 v y 0 v z 0 n 1", "let z 0 n 1 v z 0", "n 1"},
		{"app fn x i let y 0 v x 0 v y 0 n 1", "let y 0 n 1 v y 0", "n 1"}, {"let x 0 n 1 app fn y i v y 0 v x 0", "app fn y i v y 0 n 1", "n 1"},
		// those ahead first, part by part
		{"pair let x 0 n 1 v x 0 let y 0 n 2 v y 0", "pair n 1 let y 0 n 2 v y 0", "pair n 1 n 2"}, {"op + app fn x i v x 0 n 1 op + let y 0 n 2 v y 0 app fn z i v z 0 n 3", "op + n 1 op + let y 0 n 2 v y 0 app fn z i v z 0 n 3", "op + n 1 op + n 2 app fn z i v z 0 n 3", "op + n 1 op + n 2 n 3"},
		{"if let x 0 t v x 0 let y 0 n 1 v y 0 let z 0 n 2 v z 0", "if t let y 0 n 1 v y 0 let z 0 n 2 v z 0", "if t n 1 let z 0 n 2 v z 0", "if t n 1 n 2"}, {"case h r let x 0 nil i v x 0 let y 0 n 1 v y 0 let z 0 v h 0 v z 0", "case h r nil i let y 0 n 1 v y 0 let z 0 v h 0 v z 0", "case h r nil i n 1 let z 0 v h 0 v z 0", "case h r nil i n 1 v h 0"}, {"try e let x 0 n 1 v x 0 let y 0 v e 0 v y 0", "try e n 1 let y 0 v e 0 v y 0", "try e n 1 v e 0"},
		{"fix f 0 f i i fn x i let y 0 v x 0 v y 0 let z 0 n 1 app v f 0 v z 0", "fix f 0 f i i fn x i v x 0 let z 0 n 1 app v f 0 v z 0", "fix f 0 f i i fn x i v x 0 app v f 0 n 1"}, {"app let x 0 n 1 fn y i op + v x 0 v y 0 let z 0 n 2 v z 0", "app fn y i op + n 1 v y 0 let z 0 n 2 v z 0", "app fn y i op + n 1 v y 0 n 2", "op + n 1 n 2"}, {"let x 0 op + let y 0 n 1 v y 0 n 2 let z 0 v x 0 v z 0", "let x 0 op + n 1 n 2 let z 0 v x 0 v z 0", "let x 0 op + n 1 n 2 v x 0"},
		{"app app fn x i fn y i op - v x 0 v y 0 n 1 n 2", "app fn y i op - n 1 v y 0 n 2", "op - n 1 n 2"}, {"app fn f f i i app v f 0 n 3 fn x i op * v x 0 n 2", "app fn x i op * v x 0 n 2 n 3", "op * n 3 n 2"},
		// one that can't be done is passed by, and its parts are not
		{"let x 0 n 1 op + v x 0 let y 0 v x 0 v y 0", "let x 0 n 1 op + v x 0 v x 0"}, {"let x 0 fn y i let z 0 v y 0 v z 0 pair v x 0 v x 0", "let x 0 fn y i v y 0 pair v x 0 v x 0"}, {"let x 0 fn y i let z 0 v y 0 op + v z 0 n 3 pair v x 0 app v x 0 let w 0 n 2 op + v w 0 n 1", "let x 0 fn y i op + v y 0 n 3 pair v x 0 app v x 0 let w 0 n 2 op + v w 0 n 1", "let x 0 fn y i op + v y 0 n 3 pair v x 0 app v x 0 op + n 2 n 1"},
		{"let x 0 raise i n 1 let y 0 n 2 op + v x 0 v y 0", "let x 0 raise i n 1 op + v x 0 n 2"}, {"app fn x i let y 0 n 2 op + v x 0 v y 0 raise i n 1", "app fn x i op + v x 0 n 2 raise i n 1"},
		// a use that is left out with what it stands in
		{"let x 0 n 1 let y 0 v x 0 v x 0", "let x 0 n 1 v x 0", "n 1"}, {"let x 0 n 1 let y 0 v x 0 n 2", "let y 0 n 1 n 2", "n 2"}, {"let x 0 n 1 pair v x 0 app fn y i n 2 v x 0", "let x 0 n 1 pair v x 0 n 2", "pair n 1 n 2"}, {"let x 0 n 1 let y 0 pair v x 0 v x 0 n 3", "let x 0 n 1 n 3", "n 3"},
		// a use within a function
		{"let x 0 n 5 fn y i op + v y 0 v x 0", "fn y i op + v y 0 n 5"}, {"let x 0 n 5 fn y i fn z i v x 0", "fn y i fn z i n 5"}, {"let x 0 n 5 fn y i op + v x 0 v x 0"}, {"let x 0 n 5 pair v x 0 fn y i v x 0"}, {"fn z i app fn x i fn y i op - v x 0 v y 0 v z 0", "fn z i fn y i op - v z 0 v y 0"}, {"let x 0 n 1 let f 0 fn y i op + v x 0 v y 0 op * app v f 0 n 1 app v f 0 n 2", "let f 0 fn y i op + n 1 v y 0 op * app v f 0 n 1 app v f 0 n 2"},
		{"let k 0 n 2 fix f 0 f i i fn x i if op < v x 0 n 1 n 0 op + v k 0 app v f 0 op - v x 0 n 1 app v f 0 n 3", "fix f 0 f i i fn x i if op < v x 0 n 1 n 0 op + n 2 app v f 0 op - v x 0 n 1 app v f 0 n 3"}, {"fix f 0 f i i fn x i let g 0 v f 0 if op < v x 0 n 1 n 0 app v g 0 op - v x 0 n 1 app v f 0 n 3", "fix f 0 f i i fn x i if op < v x 0 n 1 n 0 app v f 0 op - v x 0 n 1 app v f 0 n 3"}, {"let x 0 n 1 let f 0 fn y i v x 0 let g 0 fn z i app v f 0 v z 0 app v g 0 n 4", "let f 0 fn y i n 1 let g 0 fn z i app v f 0 v z 0 app v g 0 n 4", "let g 0 fn z i app fn y i n 1 v z 0 app v g 0 n 4", "app fn z i app fn y i n 1 v z 0 n 4", "app fn y i n 1 n 4", "n 1"},
		// tries and cases with their names
		{"try e raise i n 5 let x 0 v e 0 op + v x 0 n 1", "try e raise i n 5 op + v e 0 n 1"}, {"let x 0 n 5 try e raise i v x 0 v e 0", "try e raise i n 5 v e 0"}, {"let x 0 n 5 try e raise i n 1 op + v e 0 v x 0", "try e raise i n 1 op + v e 0 n 5"}, {"let x 0 fn y i raise i v y 0 try e app v x 0 n 3 v e 0", "try e app fn y i raise i v y 0 n 3 v e 0", "try e raise i n 3 v e 0"}, {"case h r cons n 1 nil i n 2 let x 0 v h 0 let y 0 v r 0 case k s v y 0 v x 0 v k 0", "case h r cons n 1 nil i n 2 let y 0 v r 0 case k s v y 0 v h 0 v k 0", "case h r cons n 1 nil i n 2 case k s v r 0 v h 0 v k 0"},
		{"let x 0 cons n 1 cons n 2 nil i case h r v x 0 n 0 case k s v r 0 n 0 op + v h 0 v k 0", "case h r cons n 1 cons n 2 nil i n 0 case k s v r 0 n 0 op + v h 0 v k 0"}, {"let x 0 n 1 let y 0 n 2 let z 0 pair v x 0 v y 0 op + fst v z 0 snd v z 0", "let y 0 n 2 let z 0 pair n 1 v y 0 op + fst v z 0 snd v z 0", "let z 0 pair n 1 n 2 op + fst v z 0 snd v z 0"},
		// what is put brings its binders along, and they stay unlike
		{"let x 0 fn y i let z 0 raise i v y 0 v z 0 app v x 0 n 7", "app fn y i let z 0 raise i v y 0 v z 0 n 7", "let z 0 raise i n 7 v z 0"}, {"fn a i let x 0 fn b i pair v a 0 v b 0 fn c i app v x 0 v c 0", "fn a i fn c i app fn b i pair v a 0 v b 0 v c 0", "fn a i fn c i pair v a 0 v c 0"},
		// of no type
		{"let x 0 n 1 app v x 0 v x 0"}, {"app fn x i app v x 0 n 1 t", "app t n 1"}, {"let x 0 cons n 1 n 2 n 5", "n 5"}, {"app fn x i app v x 0 v x 0 fn y i app v y 0 v y 0"}, {"app fn x i v x 0 fn y i app v y 0 v y 0", "fn y i app v y 0 v y 0"},
	} {
		betaSteps(t, steps...)
	}
}

// What ends with what, as told by hand, with all put in and without.
func TestBetaPrograms(t *testing.T) {
	for text, end := range map[string]string{
		"let a1 0 fn a2 i op + v a2 0 n 1 app v a1 0 n 4": "5", "app app fn x i fn y i op - v x 0 v y 0 n 1 n 2": "-1", "let k 0 n 2 fix f 0 f i i fn x i if op < v x 0 n 1 n 0 op + v k 0 app v f 0 op - v x 0 n 1 app v f 0 n 3": "6", "let x 0 n 5 try e raise i v x 0 op * v e 0 v e 0": "25", "let x 0 fn y i raise i v y 0 try e app v x 0 n 3 v e 0": "3",
		"let x 0 fn y i raise i v y 0 app v x 0 n 8": "raise 8", "let x 0 n 1000000 op + v x 0 n 1": "raise -1", "let x 0 cons n 1 cons n 2 nil i case h r v x 0 n 0 case k s v r 0 n 0 op + v h 0 v k 0": "3", "let x 0 n 1 let f 0 fn y i op + v x 0 v y 0 op * app v f 0 n 1 app v f 0 n 2": "6", "app fn f f i i app v f 0 n 3 fn x i op * v x 0 n 2": "6", "let x 0 fn y i raise i v y 0 n 4": "4", "app fn x l i cons n 1 v x 0 nil i": "[1]",
		"let g 0 fn a i fn b i op - v a 0 v b 0 let h 0 app v g 0 n 10 op + app v h 0 n 1 app v h 0 n 2": "17", "let x 0 n 3 let f 0 fn y i v x 0 let z 0 n 4 op + app v f 0 n 0 v z 0": "7", "let x 0 fn q i app fix f 0 f i i fn w i app v f 0 v w 0 v f 0 n 1 n 2": "2", "let x 0 fn q i app fix f 0 f i i fn w i app v f 0 v w 0 v f 0 n 1 app v x 0 n 2": "fuel",
	} {
		term := parsedTerm(t, text)
		want, done := asPlainBeta(t, term)
		if !impl.Program(term) || !impl.Program(want) || done["let 0"]+done["let 1"]+done["app 0"]+done["app 1"] == 0 {
			t.Error("the test's own", text, done)
		}
		if got := endsBeta(t, term, want, impl.MaxFuel); got != ends(end) || impl.Run(want, impl.MaxFuel) != ends(end) {
			t.Errorf("%s: %v and %v, not %s", text, got, impl.Run(want, impl.MaxFuel), end)
		}
	}
}

// Where what comes would be too deep it is not done, and nothing behind it either; what is just not too deep is.
func TestBetaTooDeep(t *testing.T) {
	wide := wraps()["pair second"]
	for ahead := range 8 {
		for uses := 1; uses <= 22; uses++ {
			deep := 25 - ahead - uses // as deep as can be put there
			for _, is := range []impl.Term{wrapped(wide, deep-1, tmNum(3)), wrapped(wide, deep, tmNum(3))} {
				for form, term := range map[string]impl.Term{
					"let 1": tmLet("s", 0, is, wrapped(wraps()["fst"], uses-1, tmVar("s"))),
					"app 1": tmOf(impl.TmApp, tmFn("s", tyInt, wrapped(wraps()["fst"], uses-1, tmVar("s"))), is),
				} {
					term = wrapped(wraps()["snd"], ahead, term)
					if deep < 1 || !impl.TermOk(term) {
						continue
					}
					own, what := plainBeta(term)
					if (what == "deep") != (plainDepth(is) > deep) || what != "deep" && what != form {
						t.Error("the test's own", ahead, uses, deep, what)
					}
					betaTo(t, term, own, what == form)
					if got := impl.BetaAll(term); !equalTerms(got, own) {
						t.Error("BetaAll", ahead, uses, deep, impl.TermText(got))
					}
					deepBeside(t, term, what == "deep")
				}
			}
		}
	}
}

// deepBeside fails when what stands behind or ahead of a term that is the first, or the second, is not as it must be: behind one that is too deep nothing is done.
func deepBeside(t *testing.T, term impl.Term, deep bool) {
	t.Helper()
	other := parsedTerm(t, "let o 0 n 1 v o 0")
	behind, ahead := tmOf(impl.TmIf, tmBool(1), term, other), tmOf(impl.TmIf, tmBool(1), other, term)
	if !impl.TermOk(behind) {
		return
	}
	got, ok := impl.Beta(behind)
	_, what := plainBeta(behind)
	if ok != (what != "deep") || !ok && !equalTerms(got, behind) || deep && ok {
		t.Errorf("%s: %v and %s", plainTermText(behind), ok, impl.TermText(got))
	}
	last, done := asPlainBeta(t, behind)
	if deep && (done["deep"] != 1 || !equalTerms(last, behind)) {
		t.Errorf("%s: %v and %s", plainTermText(behind), done, plainTermText(last))
	}
	got, ok = impl.Beta(ahead)
	if want := tmOf(impl.TmIf, tmBool(1), tmNum(1), term); !ok || !equalTerms(got, want) {
		t.Errorf("%s: %v and %s", plainTermText(ahead), ok, impl.TermText(got))
	}
	asPlainBeta(t, ahead)
}

// As many times as can be, in terms as great and as deep as can be.
func TestBetaOfTheGreatestTerms(t *testing.T) {
	for nodes := 131; nodes <= 150; nodes++ {
		count := 0
		name := func() string { count++; return countedUp(count)[count-1] }
		term := letsOfNodes(nodes, name, tmNum(1))
		last, done := asPlainBeta(t, term)
		if nodes%2 == 1 && (done["let 1"] != (nodes-1)/2 || !equalTerms(last, tmNum(1))) {
			t.Error(nodes, done, plainTermText(last))
		}
		if nodes%2 == 0 && done["let 1"] < 20 {
			t.Error(nodes, done, plainTermText(last))
		}
	}
	for _, term := range []impl.Term{sumOfNodes(150), termOfNodes(150), mostBinders("x", "y"), deepestLets("x", "y")} {
		if len(plainFree(term)) == 0 {
			asPlainBeta(t, readied(term))
		}
	}
	last, done := asPlainBeta(t, readied(deepestLets("x")))
	if done["let 0"]+done["let 1"] != 23 || len(last.A) > 0 {
		t.Error(done, plainTermText(last))
	}
	// as many calls one within another as can be
	calls, text := 0, "n 1"
	for impl.TermOk(mustTerm(filledAll("app fn # i v # 0 ", countedUp(calls + 1)[calls]) + text)) {
		text = filledAll("app fn # i v # 0 ", countedUp(calls + 1)[calls]) + text
		calls++
	}
	if last, done := asPlainBeta(t, parsedTerm(t, text)); calls < 20 || done["app 1"] != calls || plainTermText(last) != "n 1" {
		t.Error(calls, done)
	}
}

func TestBetaOfWhatIsNotReady(t *testing.T) {
	candidates := []string{"let q1 0 n 1 v q1 0", "app fn q2 i v q2 0 n 1"}
	for why, text := range notReady() {
		term := parsedTerm(t, text)
		notBeta(t, why, term)
		for _, other := range candidates {
			notBeta(t, why+", behind "+other, tmOf(impl.TmPair, parsedTerm(t, other), term))
			notBeta(t, why+", ahead of "+other, tmOf(impl.TmPair, term, parsedTerm(t, other)))
			notBeta(t, why+", within "+other, tmLet("q3", 0, tmFn("q4", tyInt, term), tmVar("q3")))
		}
	}
	for _, text := range []string{
		"let x 1 n 1 v x 1 i", "let x 1 n 1 n 2", "let x 2 n 1 v x 2 i b", "let x 0 n 1 v x 1 i", "app fn x v0 v x 0 n 1", "let x 0 nil v0 v x 0", "let x 0 nil l v1 n 1", "let x 0 n 1 let x 0 n 2 v x 0", "let x 0 n 1 let y 0 n 2 let y 0 n 3 v x 0", "let x 0 fn x i v x 0 app v x 0 n 1", "app fn x i v x 0 fn x i n 1", "let x 0 v y 0 v x 0", "let x 0 v x 0 v x 0", "let x 0 n 1 v y 0", "app fn x i v x 0 v x 0", "app fn x i v y 0 n 1", "let x 0 n 1 op + v x 0 v y 0", "let f 1 fn x v0 v x 0 app v f 1 i n 4",
	} {
		if term := parsedTerm(t, text); plainReady(term) {
			t.Error("the test's own", text)
		} else {
			notBeta(t, text, term)
		}
	}
	met := 0
	for _, term := range slices.Concat(anyTerms(1000), typedTerms(800), polyPrograms(100)) {
		if plainReady(term) {
			asPlainBeta(t, term)
			continue
		}
		met++
		notBeta(t, plainTermText(term), term)
	}
	if met < 1300 {
		t.Error("too few", met)
	}
}

// What is not right is told by BetaAll as it is, in lists of its own.
func TestBetaOfWhatIsNotRight(t *testing.T) {
	t.Parallel()
	wrong := wrongTerms()
	for _, why := range sortedKeys(wrong) {
		for _, term := range []impl.Term{wrong[why], tmOf(impl.TmPair, parsedTerm(t, "let s 0 n 1 v s 0"), wrong[why])} {
			notBeta(t, why, term)
			lists := listsOf(term)
			for place := range listsOf(impl.BetaAll(term)) {
				if lists[place] > 0 {
					t.Error("BetaAll shares a list with its argument:", why)
					break
				}
			}
		}
	}
}

// P18: over many terms, against the test's own, and by what follows. Where nothing that is not wanted comes in a term of no type, it ends the same, too.
func TestBetaByChance(t *testing.T) {
	t.Parallel()
	ended, typed, did, steps := map[int]int{}, map[int]int{}, map[string]int{}, map[int]int{}
	for _, term := range slices.Concat(betaTerms(500), flowTerms(200), knots(200)) {
		last, done := asPlainBeta(t, term)
		count := 0
		for what, n := range done {
			did[what] += n
			if what != "" && what != "deep" {
				count += n
			}
		}
		steps[min(count, 8)]++
		_, code := impl.TypeOf(term)
		typed[code]++
		if code != impl.CheckGood && plainWrong(term, impl.MaxFuel) > 0 {
			continue
		}
		before := endsBeta(t, term, last, impl.MaxFuel)
		if impl.Run(last, impl.MaxFuel).End == impl.EndFuel {
			before = isFuel
		}
		ended[before.End]++
	}
	if ended[impl.EndValue] < 1000 || ended[impl.EndRaise] < 300 || ended[impl.EndFuel] < 30 || typed[impl.CheckGood] < 1200 || typed[impl.CheckType] < 300 || steps[0] < 100 || steps[1] < 200 || steps[8] < 100 {
		t.Error("too few", ended, typed, steps)
	}
	for what, least := range map[string]int{"let 0": 500, "let 1": 1500, "app 0": 50, "app 1": 300, "": 2000} {
		if did[what] < least {
			t.Error("too few", did)
		}
	}
}

// What is drawn out of a term in which there is nothing to put in comes back.
func TestBetaPutsBackWhatIsDrawnOut(t *testing.T) {
	t.Parallel()
	back := map[string]int{}
	terms := betaTerms(150)
	for i, term := range terms {
		term = impl.BetaAll(term)
		if _, what := plainBeta(term); what != "" {
			continue
		}
		r := randFrom(i)
		for range 10 {
			drawn, ok := drawnOut(r, term, "drawn")
			if !ok {
				continue
			}
			_, what := plainBeta(drawn)
			back[what]++
			betaTo(t, drawn, term, true)
			if got := impl.BetaAll(drawn); !equalTerms(got, term) {
				t.Errorf("%s: %s", plainTermText(drawn), impl.TermText(got))
			}
		}
	}
	if back["let 1"] < 1000 || back["app 1"] < 300 || len(back) != 2 {
		t.Error("too few", back)
	}
}

// A list whose rest is none is Pure by chapter 14's words, though it raises in a term of no type: put in it is no longer made, or made elsewhere.
func TestBetaWithoutAType(t *testing.T) {
	for text, c := range map[string][3]string{
		"let x 0 cons n 1 n 2 n 5":                      {"n 5", "raise -2", "5"},
		"app fn x i n 5 cons n 1 t":                     {"n 5", "raise -2", "5"},
		"let x 0 cons n 1 n 2 try e v x 0 v e 0":        {"try e cons n 1 n 2 v e 0", "raise -2", "-2"},
		"let x 0 cons n 1 n 2 fst app fn y i n 1 v x 0": {"fst n 1", "raise -2", "raise -2"},
		"let x 0 n 1 app v x 0 n 2":                     {"app n 1 n 2", "raise -2", "raise -2"},
	} {
		term := parsedTerm(t, text)
		if _, code := impl.TypeOf(term); code != impl.CheckType {
			t.Error("the test's own", text, code)
		}
		last, _ := asPlainBeta(t, term)
		if plainTermText(last) != c[0] || impl.Run(term, 100) != ends(c[1]) || impl.Run(last, 100) != ends(c[2]) {
			t.Errorf("%s: %s, %v and %v", text, plainTermText(last), impl.Run(term, 100), impl.Run(last, 100))
		}
	}
}

// betaArguments are terms of all sorts, right and wrong, ready and not, of which each can be gone through.
func betaArguments() []impl.Term {
	all := slices.Concat(betaTerms(40), anyTerms(80), nameTerms(20), []impl.Term{mostBinders("x", "y"), readied(mostBinders("x", "y")), readied(deepestLets("x")), termOfNodes(151), termOfNodes(150), usedTimes("x", 20), wrapped(wraps()["let second"], 40, tmNum(1)), {}, {K: 30, Ts: []impl.Ty{tyList(tyInt), {}}, A: []impl.Term{tmNum(1), {}}}})
	for _, c := range kindCases() {
		all = append(all, c.term)
	}
	wrong := wrongFields()
	for _, why := range sortedKeys(wrong) {
		all = append(all, wrong[why])
	}
	return all
}

// betaPuts are what is put, with lists within.
func betaPuts() []impl.Term {
	return []impl.Term{
		tmNum(1), tmVar("y", tyList(tyV0), tyFun(tyV1, tyInt)), tmFn("q", tyPair(tyInt, tyList(tyBool)), tmOf(impl.TmPair, tmVar("q"), tmVar("w"))), tmNil(tyList(tyInt)), tmOf(impl.TmPair, tmRaise(tyPair(tyInt, tyInt), tmNum(1)), tmVar("x")), {K: 40, A: []impl.Term{tmNum(1)}, Ts: []impl.Ty{tyList(tyInt)}},
	}
}

func TestBetaArgumentsStay(t *testing.T) {
	for _, term := range betaArguments() {
		roomy := roomyTerm(term)
		kept := fullTerm(roomy)
		var answers []impl.Term
		for _, s := range []string{"x", "y", "q", ""} {
			impl.UsesOf(roomy, s)
			for _, v := range betaPuts() {
				put := roomyTerm(v)
				keptPut := fullTerm(put)
				into, _ := impl.PutFor(roomy, s, put)
				other, _ := impl.PutFor(put, s, roomy)
				if !reflect.DeepEqual(fullTerm(put), keptPut) {
					t.Fatal("what is put was written to", term, v)
				}
				spoilAll(into, other)
				if !reflect.DeepEqual(fullTerm(put), keptPut) {
					t.Fatal("an answer is in the memory of what is put", term, v)
				}
			}
			itself, _ := impl.PutFor(roomy, s, roomy)
			answers = append(answers, itself)
		}
		next, _ := impl.Beta(roomy)
		answers = append(answers, next, impl.BetaAll(roomy))
		if !reflect.DeepEqual(fullTerm(roomy), kept) {
			t.Fatal("an argument was written to", term)
		}
		spoilAll(answers...)
		if !reflect.DeepEqual(fullTerm(roomy), kept) {
			t.Fatal("an answer is in the argument's memory", term)
		}
	}
}

// spoilAll writes into all that the lists of these hold.
func spoilAll(answers ...impl.Term) {
	for _, answer := range answers {
		for _, place := range placesOf(answer) {
			switch place := place.(type) {
			case *impl.Term:
				*place = impl.Term{K: 50}
			case *impl.Ty:
				*place = impl.Ty{K: 50}
			}
		}
	}
}

// What lies behind a list's length is not there.
func TestBetaSpareRoomIsNotRead(t *testing.T) {
	for _, term := range betaArguments() {
		roomy := roomyTerm(term)
		for _, s := range []string{"x", "y", "spare"} {
			if impl.UsesOf(roomy, s) != impl.UsesOf(term, s) {
				t.Error("UsesOf", s, impl.TermText(term))
			}
			for _, v := range betaPuts() {
				want, right := impl.PutFor(term, s, v)
				if got, ok := impl.PutFor(roomy, s, roomyTerm(v)); ok != right || !equalTerms(got, want) {
					t.Error("PutFor", s, impl.TermText(v), impl.TermText(term))
				}
			}
		}
		want, right := impl.Beta(term)
		if got, ok := impl.Beta(roomy); ok != right || !equalTerms(got, want) || !equalTerms(impl.BetaAll(roomy), impl.BetaAll(term)) {
			t.Error("Beta", impl.TermText(term))
		}
	}
}

func TestBetaAnswersAreNewMemory(t *testing.T) {
	// with one list at many places, in what is right and in what is not
	shared := tmFn("x", tyPair(tyList(tyInt), tyBool), tmVar("x", tyList(tyV0), tyFun(tyV1, tyInt)))
	same := tmOf(impl.TmPair, tmNum(1), tmNil(tyList(tyInt)))
	wrong := shared
	wrong.N = 1
	all := append(betaArguments(), tmShared(4, same), tmLet("y", 0, same, tmShared(3, same)), tmLet("y", 0, tmShared(2, same), tmOf(impl.TmPair, tmVar("y"), same)), tmOf(impl.TmApp, tmFn("y", same.A[1].T, tmOf(impl.TmCons, tmVar("y"), same)), same), tmLet("y", 2, shared, tmShared(3, shared)), tmShared(4, shared),
		wrong, tmShared(4, wrong), tmShared(9, wrong), tmOf(impl.TmPair, tmShared(8, shared), wrong), tmVar("x", shared.T, shared.T, shared.T), tmNil(tyShared(9, tyList(tyInt))), tmShared(4, tmVar("x")), usedTimes("x", 30))
	for _, term := range all {
		roomy := roomyTerm(term)
		for _, argument := range []impl.Term{roomy, term} {
			first, _ := impl.Beta(argument)
			second, _ := impl.Beta(argument)
			answers := slices.Concat(placesOf(first), placesOf(second), placesOf(impl.BetaAll(argument)), placesOf(impl.BetaAll(argument)))
			ownPlaces(t, impl.TermText(term), answers, placesOf(argument))
			for _, v := range append(betaPuts(), argument, tmShared(2, same)) {
				first, _ := impl.PutFor(argument, "x", v)
				second, _ := impl.PutFor(argument, "x", v)
				itself, _ := impl.PutFor(v, "x", argument)
				ownPlaces(t, impl.TermText(term)+" put "+impl.TermText(v), slices.Concat(placesOf(first), placesOf(second), placesOf(itself)), placesOf(argument), placesOf(v))
			}
		}
	}
}

// Nothing is kept from one call to another.
func TestBetaKeepsNothing(t *testing.T) {
	all := betaArguments()
	told := func(term impl.Term) string {
		next, ok := impl.Beta(term)
		into, put := impl.PutFor(term, "x", tmFn("q", tyInt, tmVar("z")))
		return fmt.Sprint(ok, put, impl.UsesOf(term, "x"), impl.TermText(next), impl.TermText(into), impl.TermText(impl.BetaAll(term)))
	}
	var kept []string
	for _, term := range all {
		kept = append(kept, told(term))
	}
	for i, term := range slices.Backward(all) {
		impl.BetaAll(all[len(all)-1-i])
		if told(term) != kept[i] {
			t.Error(impl.TermText(term))
		}
	}
}
