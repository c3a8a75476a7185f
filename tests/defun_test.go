package tests

import (
	"math"
	"math/rand"
	"reflect"
	"slices"
	"strconv"
	"strings"
	"testing"

	"loop.example/g00187/impl"
)

func TestDefunConstants(t *testing.T) {
	if impl.FkMake != 18 || impl.FkCall != 19 {
		t.Error(impl.FkMake, impl.FkCall)
	}
}

// defunCase is a text, and its Prog as toldProg reads it.
type defunCase struct{ text, want string }

func defunnedAll(t *testing.T, cases []defunCase) {
	t.Helper()
	for _, c := range cases {
		defunned(t, c.text, c.want)
	}
}

func TestDefunOfEachKind(t *testing.T) {
	defunnedAll(t, []defunCase{
		// without any function
		{"n 5", "main n 5"}, {"n -1000000", "main n -1000000"}, {"t", "main t"}, {"u", "main u"}, {"nil l i", "main nil"},
		{"let x 0 n 1 v x 0", "main let x n 1 v x"}, {"if t n 1 n 2", "main if t n 1 n 2"}, {"pair n 1 t", "main pair n 1 t"}, {"fst pair n 1 t", "main fst pair n 1 t"}, {"snd pair n 1 t", "main snd pair n 1 t"},
		{"cons n 1 nil i", "main cons n 1 nil"}, {"case h r cons n 1 nil i n 2 pair v h 0 v r 0", "main case h r cons n 1 nil n 2 pair v h v r"},
		{"op + n 1 n 2", "main op + n 1 n 2"}, {"op - n 1 n 2", "main op - n 1 n 2"}, {"op * n 1 n 2", "main op * n 1 n 2"}, {"op < n 1 n 2", "main op < n 1 n 2"}, {"op = n 1 n 2", "main op = n 1 n 2"},
		{"raise f i b n 5", "main raise n 5"}, {"try e raise i n 1 v e 0", "main try e raise n 1 v e"},
		// functions, calls, and functions that have a name
		{"fn x i v x 0", "fun 0 0 x v x | main make 0 0"}, {"fn x p i l b n 1", "fun 0 0 x n 1 | main make 0 0"}, {"app fn x i v x 0 n 1", "fun 1 0 x v x | main call 1 1 make 1 0 n 1"},
		{"fix f 0 f i i fn x i v x 0 v f 0", "fun 1 0 x v x | main let f make 1 0 v f"}, {"fix f 0 f i i fn x i v x 0 n 3", "fun 1 0 x v x | main let f make 1 0 n 3"},
		// a function in each part
		{"let x 0 fn y i n 1 fn z i n 2", "fun 1 0 y n 1 | fun 3 0 z n 2 | main let x make 1 0 make 3 0"}, {"if fn x i n 1 fn y i n 2 fn z i n 3", "fun 1 0 x n 1 | fun 3 0 y n 2 | fun 5 0 z n 3 | main if make 1 0 make 3 0 make 5 0"},
		{"pair fn x i n 1 fn y i n 2", "fun 1 0 x n 1 | fun 3 0 y n 2 | main pair make 1 0 make 3 0"}, {"fst pair fn x i n 1 n 2", "fun 2 0 x n 1 | main fst pair make 2 0 n 2"}, {"cons fn x i n 1 nil f i i", "fun 1 0 x n 1 | main cons make 1 0 nil"},
		{"case h r nil i fn x i n 1 fn y i v h 0", "fun 2 0 x n 1 | fun 4 1 h y v h | main case h r nil make 2 0 make 4 1 h"}, {"op + fn x i n 1 fn y i n 2", "fun 1 0 x n 1 | fun 3 0 y n 2 | main op + make 1 0 make 3 0"},
		{"raise i fn x i n 1", "fun 1 0 x n 1 | main raise make 1 0"}, {"try e fn x i n 1 fn y i v e 0", "fun 1 0 x n 1 | fun 3 1 e y v e | main try e make 1 0 make 3 1 e"}, {"app fn x i n 1 fn y i n 2", "fun 1 0 x n 1 | fun 3 0 y n 2 | main call 1 1 make 1 0 make 3 0"},
		// names with a point, and the greatest ones
		{"let x.0 0 n 1 fn abcdefgh i v x.0 0", "fun 2 1 x.0 abcdefgh v x.0 | main let x.0 n 1 make 2 1 x.0"},
	})
}

func TestDefunCaptures(t *testing.T) {
	defunnedAll(t, []defunCase{
		// nothing, one, several, in the order in which they come
		{"let a 0 n 1 fn x i v x 0", "fun 2 0 x v x | main let a n 1 make 2 0"}, {"let a 0 n 1 fn x i v a 0", "fun 2 1 a x v a | main let a n 1 make 2 1 a"},
		{"let a 0 n 1 let b 0 n 2 let c 0 n 3 fn x i op + v c 0 op + v a 0 op + v c 0 v b 0", "fun 6 3 c a b x op + v c op + v a op + v c v b | main let a n 1 let b n 2 let c n 3 make 6 3 c a b"},
		{"let a 0 n 1 let b 0 n 2 fn x i pair v b 0 pair v x 0 v a 0", "fun 4 2 b a x pair v b pair v x v a | main let a n 1 let b n 2 make 4 2 b a"},
		// what each binder binds
		{"fn a i fn b i op + v b 0 v a 0", "fun 0 0 a make 1 1 a | fun 1 1 a b op + v b v a | main make 0 0"}, {"case h r nil i n 1 fn x i pair v r 0 v h 0", "fun 3 2 r h x pair v r v h | main case h r nil n 1 make 3 2 r h"}, {"try e n 1 fn x i v e 0", "fun 2 1 e x v e | main try e n 1 make 2 1 e"},
		{"fix f 0 f i i fn x i v x 0 fn y i app v f 0 v y 0", "fun 1 0 x v x | fun 3 1 f y call 1 1 v f v y | main let f make 1 0 make 3 1 f"},
		// not what is bound within it
		{"fn a i let b 0 v a 0 try c case d e nil i v b 0 v d 0 v c 0", "fun 0 0 a let b v a try c case d e nil v b v d v c | main make 0 0"},
		// what lies two and more around
		{"fn a i fn b i fn c i op + v a 0 op + v b 0 v c 0", "fun 0 0 a make 1 1 a | fun 1 1 a b make 2 2 a b | fun 2 2 a b c op + v a op + v b v c | main make 0 0"},
		{"fn a i fn b i fn c i v a 0", "fun 0 0 a make 1 1 a | fun 1 1 a b make 2 1 a | fun 2 1 a c v a | main make 0 0"},
		{"fn a i fn b i fn c i fn d i pair v c 0 v a 0", "fun 0 0 a make 1 1 a | fun 1 1 a b make 2 1 a | fun 2 1 a c make 3 2 c a | fun 3 2 c a d pair v c v a | main make 0 0"},
		{"app app app fn a i fn b i fn c i op + v b 0 op - v a 0 v c 0 n 7 n 2 n 1", "fun 3 0 a make 4 1 a | fun 4 1 a b make 5 2 b a | fun 5 2 b a c op + v b op - v a v c | main call 1 5 call 1 4 call 1 3 make 3 0 n 7 n 2 n 1"},
		// two functions within one, what one of them captures the other does not
		{"fn a i fn b i pair fn c i v b 0 fn d i v a 0", "fun 0 0 a make 1 1 a | fun 1 1 a b pair make 3 1 b make 5 1 a | fun 3 1 b c v b | fun 5 1 a d v a | main make 0 0"},
	})
}

func TestDefunCalls(t *testing.T) {
	defunnedAll(t, []defunCase{
		// of nothing, of one, of several
		{"app n 1 n 2", "main call 0 n 1 n 2"}, {"fn x f i i app v x 0 n 1", "fun 0 0 x call 0 v x n 1 | main make 0 0"}, {"app raise f i i n 1 n 2", "main call 0 raise n 1 n 2"},
		{"app if t fn x i n 1 fn y i n 2 n 3", "fun 3 0 x n 1 | fun 5 0 y n 2 | main call 2 3 5 if t make 3 0 make 5 0 n 3"},
		{"let f 0 if u fn x i n 1 if t fn y i n 2 fn z i n 3 app v f 0 n 4", "fun 3 0 x n 1 | fun 7 0 y n 2 | fun 9 0 z n 3 | main let f if u make 3 0 if t make 7 0 make 9 0 call 3 3 7 9 v f n 4"},
		// one within another, in each part
		{"let id 0 fn f f i i v f 0 app app v id 0 fn x i v x 0 n 1", "fun 1 0 f v f | fun 6 0 x v x | main let id make 1 0 call 1 6 call 1 1 v id make 6 0 n 1"},
		{"let g 0 fn x i op + v x 0 n 1 app v g 0 app v g 0 n 1", "fun 1 0 x op + v x n 1 | main let g make 1 0 call 1 1 v g call 1 1 v g n 1"},
		// out of pairs and lists
		{"app snd pair fn x i n 1 fn y i n 2 n 3", "fun 3 0 x n 1 | fun 5 0 y n 2 | main call 1 5 snd pair make 3 0 make 5 0 n 3"},
		{"case h r cons fn x i n 1 cons fn y i n 2 nil f i i n 0 app v h 0 n 3", "fun 2 0 x n 1 | fun 5 0 y n 2 | main case h r cons make 2 0 cons make 5 0 nil n 0 call 1 2 v h n 3"},
	})
}

func TestDefunOfFunctionsThatCallThemselves(t *testing.T) {
	defunnedAll(t, []defunCase{
		{"fix f 0 f i i fn x i app v f 0 v x 0 n 3", "fun 1 0 x call 1 1 make 1 0 v x | main let f make 1 0 n 3"},
		{"fix f 0 f i i fn x i if op < v x 0 n 1 v x 0 app v f 0 op - v x 0 n 1 app v f 0 n 3", "fun 1 0 x if op < v x n 1 v x call 1 1 make 1 0 op - v x n 1 | main let f make 1 0 call 1 1 v f n 3"},
		{"let a 0 n 1 fix f 0 f i i fn x i app v f 0 v a 0 v f 0", "fun 3 1 a x call 1 3 make 3 1 a v a | main let a n 1 let f make 3 1 a v f"},
		{"let a 0 n 1 let b 0 n 2 fix f 0 f i i fn x i if op < v x 0 v b 0 v a 0 app v f 0 op - v x 0 n 1 app v f 0 n 4", "fun 5 2 b a x if op < v x v b v a call 1 5 make 5 2 b a op - v x n 1 | main let a n 1 let b n 2 let f make 5 2 b a call 1 5 v f n 4"},
		// one that gives itself back, one that is handed itself
		{"fix f 0 f i i fn x i v f 0 app app v f 0 n 1 n 2", "fun 1 0 x make 1 0 | main let f make 1 0 call 1 1 call 1 1 v f n 1 n 2"}, {"let a 0 n 1 fix f 0 f i i fn x i pair v f 0 v a 0 app v f 0 n 1", "fun 3 1 a x pair make 3 1 a v a | main let a n 1 let f make 3 1 a call 1 3 v f n 1"},
		{"fix f 0 f i i fn g f i i app v g 0 v f 0 n 1", "fun 1 0 g call 0 v g make 1 0 | main let f make 1 0 n 1"},
		// held by one that calls itself: called from within it
		{"let a 0 n 1 fix f 0 f i f i i fn x i fn y i app v f 0 v a 0 v f 0", "fun 3 1 a x make 4 1 a | fun 4 1 a y call 1 3 make 3 1 a v a | main let a n 1 let f make 3 1 a v f"},
		{"let a 0 n 1 fix f 0 f i i fn x i app fn y i app v f 0 v y 0 v a 0 v f 0", "fun 3 1 a x call 1 5 make 5 1 a v a | fun 5 1 a y call 1 3 make 3 1 a v y | main let a n 1 let f make 3 1 a v f"},
		{"fix f 0 f i i fn x i app fn y i app v f 0 op - v y 0 v x 0 v x 0 v f 0", "fun 1 0 x call 1 3 make 3 1 x v x | fun 3 1 x y call 1 1 make 1 0 op - v y v x | main let f make 1 0 v f"},
		{"let a 0 n 1 fix f 0 f i i fn x i app fn y i app fn z i app v f 0 v z 0 v x 0 v a 0 v f 0", "fun 3 1 a x call 1 5 make 5 2 a x v a | fun 5 2 a x y call 1 7 make 7 1 a v x | fun 7 1 a z call 1 3 make 3 1 a v z | main let a n 1 let f make 3 1 a v f"},
		// called where it holds: there it is a name
		{"let a 0 n 1 fix f 0 f i i fn x i v a 0 fn y i app v f 0 v a 0", "fun 3 1 a x v a | fun 5 2 f a y call 1 3 v f v a | main let a n 1 let f make 3 1 a make 5 2 f a"},
		{"fix f 0 f i i fn x i app v f 0 v x 0 app fn y i app v f 0 v y 0 n 1", "fun 1 0 x call 1 1 make 1 0 v x | fun 6 1 f y call 1 1 v f v y | main let f make 1 0 call 1 6 make 6 1 f n 1"},
	})
}

func TestDefunOfFixWithinFix(t *testing.T) {
	defunnedAll(t, []defunCase{
		// the inner one calls the outer one, itself, and both
		{"let a 0 n 1 fix f 0 f i i fn x i fix g 0 f i i fn y i app v f 0 op + v y 0 v a 0 app v g 0 v x 0 v f 0", "fun 3 1 a x let g make 5 1 a call 1 5 v g v x | fun 5 1 a y call 1 3 make 3 1 a op + v y v a | main let a n 1 let f make 3 1 a v f"},
		{"fix f 0 f i i fn x i fix g 0 f i i fn y i app v g 0 op + v y 0 v x 0 app v g 0 n 1 v f 0", "fun 1 0 x let g make 3 1 x call 1 3 v g n 1 | fun 3 1 x y call 1 3 make 3 1 x op + v y v x | main let f make 1 0 v f"},
		{"let a 0 n 1 fix f 0 f i i fn x i fix g 0 f i i fn y i op + app v g 0 v x 0 app v f 0 v a 0 app v g 0 v a 0 v f 0", "fun 3 1 a x let g make 5 2 x a call 1 5 v g v a | fun 5 2 x a y op + call 1 5 make 5 2 x a v x call 1 3 make 3 1 a v a | main let a n 1 let f make 3 1 a v f"},
		// one within the inner one calls both, and reads nothing else
		{"let a 0 n 1 fix f 0 f i i fn x i fix g 0 f i i fn y i app fn z i pair app v f 0 v z 0 app v g 0 v z 0 op + v x 0 v a 0 v g 0 v f 0", "fun 3 1 a x let g make 5 2 a x v g | fun 5 2 a x y call 1 7 make 7 2 a x op + v x v a | fun 7 2 a x z pair call 1 3 make 3 1 a v z call 1 5 make 5 2 a x v z | main let a n 1 let f make 3 1 a v f"},
		{"let a 0 n 1 fix f 0 f i i fn x i fix g 0 f i i fn y i app fn z i pair app v g 0 v z 0 app v f 0 v z 0 op + v x 0 v a 0 v g 0 v f 0", "fun 3 1 a x let g make 5 2 a x v g | fun 5 2 a x y call 1 7 make 7 2 a x op + v x v a | fun 7 2 a x z pair call 1 5 make 5 2 a x v z call 1 3 make 3 1 a v z | main let a n 1 let f make 3 1 a v f"},
		// the outer one holds where the inner one stands, so it is a name there
		{"fix f 0 f i i fn x i v x 0 fix g 0 f i i fn y i app v f 0 app v g 0 v y 0 v g 0", "fun 1 0 x v x | fun 4 1 f y call 1 1 v f call 1 4 make 4 1 f v y | main let f make 1 0 let g make 4 1 f v g"},
		// and it comes with what the inner one captures
		{"fix f 0 f i i fn x i v x 0 fix g 0 f i i fn y i app fn z i app v g 0 v z 0 app v f 0 v y 0 v g 0", "fun 1 0 x v x | fun 4 1 f y call 1 6 make 6 1 f call 1 1 v f v y | fun 6 1 f z call 1 4 make 4 1 f v z | main let f make 1 0 let g make 4 1 f v g"},
		// within where the inner one holds, within the outer one's function: the outer one is none, the inner one is a name
		{"let a 0 n 1 fix f 0 f i i fn x i fix g 0 f i i fn y i v a 0 app fn z i app v f 0 app v g 0 v z 0 v x 0 v f 0", "fun 3 1 a x let g make 5 1 a call 1 8 make 8 2 a g v x | fun 5 1 a y v a | fun 8 2 a g z call 1 3 make 3 1 a call 1 5 v g v z | main let a n 1 let f make 3 1 a v f"},
	})
}

// What the outer function captures stands in the place of its name, but for what is there already.
func TestDefunPutsWhatIsCapturedInTheNamesPlace(t *testing.T) {
	for reads, want := range map[string]string{
		"f": "a b c", "f f": "a b c", "x": "x", "": "", "a": "a", "c x": "c x",
		// nothing of it there
		"x f": "x a b c", "f x": "a b c x", "d f": "d a b c", "f d": "a b c d", "x f d": "x a b c d",
		// ahead of it
		"a f": "a b c", "b f": "b a c", "c f": "c a b", "a b f": "a b c", "b a f": "b a c", "c b f": "c b a", "c b a f": "c b a", "x c f": "x c a b", "c x f": "c x a b",
		// behind it
		"f a": "a b c", "f b": "a b c", "f c": "a b c", "f a b": "a b c", "f b a": "a b c", "f c b a": "a b c", "f x a": "a b c x", "f a x": "a b c x", "f d b": "a b c d", "f x c": "a b c x",
		// some of each
		"a f b": "a b c", "a f c": "a b c", "b f a": "b a c", "c f a": "c a b", "c f b a": "c a b", "a b f c": "a b c", "x a f d b x": "x a b c d", "b x f a d": "b x a c d",
	} {
		names := strings.Fields(reads)
		body := tmNum(0)
		for _, s := range slices.Backward(names) {
			body = tmOf(impl.TmPair, tmVar(s), body)
		}
		whole := tmFn("x", tyInt, tmOf(impl.TmPair, tmOf(impl.TmPair, tmVar("a"), tmOf(impl.TmPair, tmVar("b"), tmVar("c"))), tmLet("d", 0, tmNum(4), tmFn("y", tyInt, body))))
		whole = tmFix("f", 0, tyInt, whole, tmOf(impl.TmApp, tmVar("f"), tmNum(5)))
		for i, s := range []string{"c", "b", "a"} {
			whole = tmLet(s, 0, tmNum(3-i), whole)
		}
		p := asPlainDefun(t, whole)
		if len(p.Funs) != 2 || !slices.Equal(p.Funs[0].L, []string{"a", "b", "c"}) || !slices.Equal(p.Funs[1].L, strings.Fields(want)) {
			t.Errorf("%q: %v, not %q", reads, p.Funs, want)
		}
		endsTheSame(t, whole, p)
	}
}

// Two functions that call themselves around one: what both capture comes once.
func TestDefunPutsWhatTwoFunctionsCapture(t *testing.T) {
	for reads, want := range map[string][2]string{
		"f": {"b x c a", "a b c"}, "g": {"b x c", "b x c"}, "f g": {"b x c a", "a b c x"}, "g f": {"b x c a", "b x c a"}, "f a g": {"b x c a", "a b c x"}, "g a f": {"b x c a", "b x c a"}, "g x f": {"b x c a", "b x c a"}, "f c g": {"b x c a", "a b c x"},
		"c f g": {"b x c a", "c a b x"}, "f g b": {"b x c a", "a b c x"}, "y f y g": {"b x c a", "y a b c x"}, "f y g a": {"b x c a", "a b c y x"}, "g y f c": {"b x c a", "b x c a y"}, "a g x f": {"b x c a", "a b x c"}, "": {"b x c", ""}, "a": {"b x c a", "a"},
	} {
		body := tmNum(0)
		for _, s := range slices.Backward(strings.Fields(reads)) {
			body = tmOf(impl.TmPair, tmVar(s), body)
		}
		inner := tmFn("y", tyInt, tmOf(impl.TmPair, tmOf(impl.TmPair, tmVar("b"), tmOf(impl.TmPair, tmVar("x"), tmVar("c"))), tmFn("z", tyInt, body)))
		outer := tmFn("x", tyInt, tmOf(impl.TmPair, tmOf(impl.TmPair, tmVar("a"), tmVar("b")), tmFix("g", 0, tyInt, inner, tmOf(impl.TmApp, tmVar("g"), tmNum(1)))))
		whole := tmLet("a", 0, tmNum(1), tmLet("b", 0, tmNum(2), tmLet("c", 0, tmNum(3), tmFix("f", 0, tyInt, outer, tmOf(impl.TmApp, tmVar("f"), tmNum(2))))))
		p := asPlainDefun(t, whole)
		for i, l := range []string{"a b c", want[0], want[1]} {
			if len(p.Funs) != 3 || !slices.Equal(p.Funs[i].L, strings.Fields(l)) {
				t.Errorf("%q: %v, the one of %d not %q", reads, p.Funs, i, l)
			}
		}
		endsTheSame(t, whole, p)
	}
}

// Functions that call themselves from within others, and end.
func TestDefunOfLoopsEndsTheSame(t *testing.T) {
	for text, want := range map[string]string{
		"fix f 0 f i i fn x i if op < v x 0 n 1 n 0 op + v x 0 app v f 0 op - v x 0 n 1 app v f 0 n 10":                                                                                                              "55",
		"fix f 0 f i i fn x i if op < v x 0 n 1 n 0 app fn y i op + v y 0 app v f 0 op - v x 0 n 1 n 2 app v f 0 n 10":                                                                                               "20",
		"let a 0 n 3 fix f 0 f i i fn x i fix g 0 f i i fn y i if op < v y 0 n 1 if op < v x 0 n 1 v a 0 app v f 0 op - v x 0 n 1 op + n 1 app v g 0 op - v y 0 n 1 app v g 0 v x 0 app v f 0 n 4":                   "13",
		"fix even 0 f i b fn x i fix odd 0 f i b fn y i if op = v y 0 n 0 u app v even 0 op - v y 0 n 1 if op = v x 0 n 0 t app v odd 0 op - v x 0 n 1 app v even 0 n 9":                                             "u",
		"fix even 0 f i b fn x i fix odd 0 f i b fn y i if op = v y 0 n 0 u app v even 0 op - v y 0 n 1 if op = v x 0 n 0 t app v odd 0 op - v x 0 n 1 app v even 0 n 8":                                             "t",
		"fix f 0 f i f i i fn x i fn y i if op < v x 0 n 1 v y 0 app app v f 0 op - v x 0 n 1 op + v y 0 v x 0 app app v f 0 n 4 n 100":                                                                              "110",
		"fix map 0 f f i i f l i l i fn f f i i fn l l i case h r v l 0 nil i cons app v f 0 v h 0 app app v map 0 v f 0 v r 0 let k 0 n 7 app app v map 0 fn z i op * v z 0 v k 0 cons n 1 cons n 2 cons n 3 nil i": "[7,14,21]",
		"fix f 0 f i i fn x i if op < v x 0 n 1 raise i n 9 app v f 0 op - v x 0 n 1 try e app v f 0 n 3 op + v e 0 n 1":                                                                                             "10",
		"fix f 0 f i i fn x i try e if op < v x 0 n 1 raise i n 9 app v f 0 op - v x 0 n 1 raise i op + v e 0 n 1 app v f 0 n 3":                                                                                     "raise 13",
		"fix f 0 f i i fn x i app v f 0 v x 0 app v f 0 n 3":  "fuel",
		"fix f 0 f i i fn x i v f 0 pair v f 0 app v f 0 n 1": "(fn,fn)",
		"let n 0 n 5 fix f 0 f i l f i i fn x i if op < v x 0 n 1 nil f i i cons fn y i op + v y 0 op * v x 0 v n 0 app v f 0 op - v x 0 n 1 fix sum 0 f l f i i i fn l l f i i case h r v l 0 n 0 op + app v h 0 n 1 app v sum 0 v r 0 app v sum 0 app v f 0 n 3": "33",
	} {
		term := parsedTerm(t, text)
		p := asPlainDefun(t, term)
		if end, _ := endsTheSame(t, term, p); end != ends(want) {
			t.Errorf("%s: %v, not %s", text, end, want)
		}
	}
}

// Terms of all sorts: with a type and without, with loops within loops, and copied ones.
func TestDefunOfTermsByChance(t *testing.T) {
	t.Parallel()
	values, raises, fuels, wrong, calls, captured := 0, 0, 0, 0, 0, 0
	for _, term := range slices.Concat(flowTerms(500), knots(1200)) {
		p := asPlainDefun(t, term)
		end, m := endsTheSame(t, term, p)
		switch end.End {
		case impl.EndValue:
			values++
		case impl.EndRaise:
			raises++
		default:
			fuels++
		}
		if m.wrong > 0 {
			wrong++
		}
		for _, f := range p.Funs {
			captured = max(captured, len(f.L))
		}
		for _, n := range progNodes(&p) {
			if len(n.Cases) > 1 {
				calls++
			}
		}
	}
	if values < 500 || raises < 200 || fuels < 5 || wrong < 100 || calls < 100 || captured < 6 {
		t.Error("too few", values, raises, fuels, wrong, calls, captured)
	}
}

// How often each place of the rule for what is captured is met by chance.
func TestKnotsAreTied(t *testing.T) {
	put, ahead, behind, both, nested := 0, 0, 0, 0, 0
	for _, term := range knots(1200) {
		p := plainDefun(term)
		nodes := plainNodesIn(&term)
		for _, f := range p.Funs {
			free := plainFree(*nodes[f.Lam].t)
			replaced := 0
			for i, s := range free {
				if slices.Contains(f.L, s) {
					continue
				}
				at := slices.IndexFunc(nodes, func(n plainNode) bool { return n.t.K == impl.TmFix && n.t.S == s })
				if at+1 == f.Lam {
					continue
				}
				replaced++
				own := p.Funs[slices.IndexFunc(p.Funs, func(g impl.Fun) bool { return g.Lam == at+1 })].L
				has := func(list []string) bool {
					return slices.ContainsFunc(own, func(s string) bool { return slices.Contains(list, s) })
				}
				first, second := has(free[:i]), has(free[i+1:])
				if len(own) > 0 {
					put++
				}
				if first {
					ahead++
				}
				if second {
					behind++
				}
				if first && second {
					both++
				}
			}
			if replaced > 1 {
				nested++
			}
		}
	}
	if put < 500 || ahead < 150 || behind < 150 || both < 40 || nested < 15 {
		t.Error("too few", put, ahead, behind, both, nested)
	}
}

func TestDefunRefusesWhatIsNotReady(t *testing.T) {
	for why, text := range map[string]string{
		"a let with a type variable": "let x 1 n 1 n 2", "two of them": "let x 2 n 1 n 2", "a fix with one": "fix f 1 f v0 v0 fn x v0 v x 0 n 2", "types at a name": "let x 0 n 1 v x 1 i", "a type variable": "fn x v0 v x 0", "at a list": "nil v1", "at a raise": "raise l v0 n 1", "far within": "fst pair n 1 fst pair n 1 nil p i v0",
		"a name twice": "let x 0 n 1 let x 0 n 2 n 3", "side by side": "pair fn x i n 1 fn x i n 2", "of a case": "case x y nil i n 1 let y 0 n 1 n 2", "of a fix": "fix f 0 f i i fn f i n 1 n 2", "of a try": "try x n 1 fn x i n 2",
		"a free name": "v x 0", "far within it": "pair n 1 pair n 2 fn x i v y 0", "of a let within itself": "let x 0 v x 0 n 1", "of a case ahead": "case h r v h 0 n 1 n 2", "of a try ahead": "try e v e 0 n 1", "behind its binder": "pair fn x i n 1 v x 0",
	} {
		term := parsedTerm(t, text)
		if plainReady(term) {
			t.Error("the test's own", why)
		}
		notDefunned(t, why, term)
	}
	for why, term := range wrongTerms() {
		notDefunned(t, why, term)
	}
	refused := 0
	for _, term := range slices.Concat(anyTerms(600), polyPrograms(200), typedTerms(300)) {
		if plainReady(term) {
			endsTheSame(t, term, asPlainDefun(t, term))
			continue
		}
		refused++
		notDefunned(t, plainTermText(term), term)
	}
	if refused < 500 {
		t.Error("too few", refused)
	}
}

// What is right and what is not, by its text: what is read must be bound, each record be of a Fun, each case be one.
func TestProgOkOfTexts(t *testing.T) {
	for text, faults := range map[string]string{
		// each kind
		"main n 0": "", "main n 1000000": "", "main n -1000000": "", "main n 1000001": "number", "main n -1000001": "number", "main t": "", "main u": "", "main nil": "", "main let x n 1 v x": "", "main if t n 1 n 2": "", "main pair n 1 n 2": "", "main fst n 1": "", "main snd n 1": "", "main cons n 1 nil": "",
		"main case x y nil n 1 n 2": "", "main op + n 1 n 2": "", "main op = n 1 n 2": "", "main raise n 1": "", "main try x n 1 n 2": "", "main call 0 n 1 n 2": "", "fun 0 0 x n 1 | main make 0 0": "", "fun 0 0 x n 1 | main call 1 0 n 1 n 2": "",
		// what is read in Main
		"main v x": "not bound", "main let x v x n 1": "not bound", "main let x n 1 v y": "not bound", "main pair let x n 1 n 2 v x": "not bound", "main let x n 1 let y v x pair v x v y": "", "main let x n 1 let x v x v x": "",
		"main case x y v x n 1 n 2": "not bound", "main case x y nil v x n 2": "not bound", "main case x y nil v y n 2": "not bound", "main case x y v y n 1 n 2": "not bound", "main case x y nil n 1 v x": "", "main case x y nil n 1 v y": "", "main case x y nil n 1 v z": "not bound",
		"main try x v x n 1": "not bound", "main try x n 1 v x": "", "main try x n 1 v y": "not bound",
		// by what hides it, and what does no longer
		"main let x n 1 pair let x n 2 v x v x": "", "main let x n 1 try x v x v x": "", "main pair try x n 1 v x v x": "not bound", "main pair case x y nil n 1 v x v y": "not bound",
		// what is read in a Fun: by L, by S, by neither; not by the others, nor by what is around its record
		"fun 0 0 x v x | main make 0 0": "", "fun 0 1 y x v y | main let z n 1 make 0 1 z": "", "fun 0 1 y x v z | main let z n 1 make 0 1 z": "not bound", "fun 0 0 x v y | main n 1": "not bound", "fun 0 1 y x n 1 | fun 1 0 z v y | main n 1": "not bound", "fun 0 0 x n 1 | fun 1 0 z v x | main n 1": "not bound", "fun 0 0 x n 1 | main v x": "not bound", "fun 0 1 y x n 1 | main v y": "not bound",
		"fun 0 2 y z x pair v z pair v y v x | main n 1": "", "fun 0 0 x let y v x v y | main n 1": "", "fun 0 0 x let y v y v x | main n 1": "not bound",
		// records
		"main make 0 0": "no fun", "fun 1 0 x n 1 | main make 0 0": "no fun", "fun 1 0 x n 1 | main make 1 0": "", "fun 1 1 y x n 1 | main make 1 0": "count", "fun 1 0 x n 1 | main let z n 1 make 1 1 z": "count", "fun 1 1 y x n 1 | main let z n 1 make 1 2 z z": "count", "fun 1 2 y w x n 1 | main let z n 1 make 1 2 z z": "", "fun 1 2 y w x n 1 | main let z n 1 make 1 1 z": "count",
		"fun 1 1 y x n 1 | main make 1 1 y": "not bound", "fun 1 1 y x n 1 | main make 1 1 x": "not bound", "fun 1 1 y x n 1 | main let y make 1 1 y n 1": "not bound", "fun 1 1 y x make 1 1 y | main n 1": "", "fun 1 1 y x make 1 1 x | main n 1": "", "fun 1 1 y x make 1 1 z | main n 1": "not bound", "fun 1 2 y w x n 1 | main let z n 1 make 1 2 z y": "not bound", "fun 3 0 x make 5 0 | fun 5 0 x make 3 0 | main n 1": "", "fun 3 0 x make 4 0 | fun 5 0 x make 3 0 | main n 1": "no fun",
		// cases
		"main call 1 0 n 1 n 2": "no fun in cases", "fun 3 0 x n 1 | main call 1 2 n 1 n 2": "no fun in cases", "fun 3 0 x n 1 | main call 1 -1 n 1 n 2": "no fun in cases", "fun 3 0 x n 1 | main call 2 3 4 n 1 n 2": "no fun in cases", "fun 3 0 x n 1 | main call 2 2 3 n 1 n 2": "no fun in cases", "fun 3 0 x n 1 | main call 2 3 3 n 1 n 2": "cases order",
		"fun 3 0 x n 1 | fun 7 0 x n 1 | main call 2 3 7 n 1 n 2": "", "fun 3 0 x n 1 | fun 7 0 x n 1 | main call 2 7 3 n 1 n 2": "cases order", "fun 3 0 x n 1 | fun 7 0 x n 1 | main call 1 7 n 1 n 2": "", "fun 3 0 x n 1 | fun 7 0 x n 1 | main call 3 3 7 7 n 1 n 2": "cases order", "fun 3 0 x call 1 7 n 1 n 2 | fun 7 0 x call 1 3 n 1 n 2 | main n 1": "", "fun 3 0 x call 1 8 n 1 n 2 | fun 7 0 x n 1 | main n 1": "no fun in cases",
		// Lams
		"fun 0 0 x n 1 | fun 149 0 x n 1 | main n 1": "", "fun -1 0 x n 1 | main n 1": "lam", "fun 150 0 x n 1 | main n 1": "lam", "fun 0 0 x n 1 | fun 150 0 x n 1 | main n 1": "lam", "fun 5 0 x n 1 | fun 5 0 x n 1 | main n 1": "lam order", "fun 6 0 x n 1 | fun 5 0 x n 1 | main n 1": "lam order", "fun 1 0 x n 1 | fun 3 0 x n 1 | fun 2 0 x n 1 | main n 1": "lam order", "fun 4 0 x n 1 | fun 5 0 y n 1 | main n 1": "",
		// names
		"fun 1 0 X n 1 | main n 1": "name", "fun 1 0 abcdefgh n 1 | main n 1": "", "fun 1 0 abcdefghi n 1 | main n 1": "name", "fun 1 1 Y x n 1 | main n 1": "name", "fun 1 1 p.q x n 1 | main n 1": "", "fun 1 2 y 9 x n 1 | main n 1": "name", "main let X n 1 n 2": "name", "main try .x n 1 n 2": "name", "main case X y nil n 1 n 2": "name", "main case x Y nil n 1 n 2": "name", "main case x x nil n 1 n 2": "one name",
	} {
		progIs(t, text, toldProg(text), faults)
	}
	for _, lam := range []int{math.MinInt, -150, -1, 150, 151, math.MaxInt} {
		progIs(t, "Lam "+strconv.Itoa(lam), progOf(ftNum(1), ftFun(lam, "x", ftNum(1))), "lam")
		progIs(t, "a record of "+strconv.Itoa(lam), progOf(ftMake(lam), ftFun(1, "x", ftNum(1))), "no fun")
		progIs(t, "a case "+strconv.Itoa(lam), progOf(ftCall(ftNum(1), ftNum(1), lam), ftFun(1, "x", ftNum(1))), "no fun in cases")
		progIs(t, "a Fun of "+strconv.Itoa(lam)+" that is made", progOf(ftMake(lam), ftFun(lam, "x", ftNum(1))), "lam")
	}
	for lam := range 150 {
		progIs(t, "Lam "+strconv.Itoa(lam), progOf(ftCall(ftMake(lam), ftNum(1), lam), ftFun(lam, "x", ftNum(1))), "")
	}
	progIs(t, "zero", impl.Prog{}, "kind")
	progIs(t, "a zero Fun", progOf(ftNum(1), impl.Fun{}), "kind, name")
	progIs(t, "a zero body", progOf(ftNum(1), ftFun(0, "x", impl.FTerm{})), "kind")
	progIs(t, "no Main", progOf(impl.FTerm{}, ftFun(0, "x", ftNum(1))), "kind")
}

func TestProgNames(t *testing.T) {
	n := ftNum(1)
	with := func(s string) []impl.Prog {
		return []impl.Prog{
			progOf(ftLet(s, n, n)), progOf(ftTry(s, n, n)), progOf(ftCase(s, "zz", n, n, n)), progOf(ftCase("zz", s, n, n, n)), progOf(n, ftFun(0, s, n)), progOf(n, ftFun(0, "zz", n, s)), progOf(n, ftFun(0, "zz", n, "yy", s)),
			progOf(ftLet(s, n, ftVar(s))), progOf(n, ftFun(0, s, ftMake(0, s), "zz")), progOf(n, ftFun(0, "zz", ftMake(0, s), s)),
		}
	}
	for _, s := range rightNames() {
		for _, p := range with(s) {
			progIs(t, s, p, "")
		}
	}
	for _, s := range wrongNames() {
		for _, p := range with(s) {
			if len(progFaults(p)) == 0 || impl.ProgOk(p) || impl.ProgText(p) != "" {
				t.Errorf("%q is a name", s)
			}
		}
	}
}

// Each kind with a wrong number of parts, and with each field that it does not name.
func TestProgOkOfEachKindsFields(t *testing.T) {
	n := ftNum(1)
	fun := ftFun(7, "arg", n, "own")
	for _, right := range []impl.FTerm{
		n, {K: impl.TmBool, N: 1}, ftVar("x"), ftLet("y", n, n), ftOf(impl.TmIf, n, n, n), ftOf(impl.TmPair, n, n), ftOf(impl.TmFst, n), ftOf(impl.TmSnd, n), ftOf(impl.TmNil), ftOf(impl.TmCons, n, n), ftCase("y", "z", n, n, n), ftOp(2, n, n), ftOf(impl.TmRaise, n), ftTry("y", n, n), ftMake(7, "x"), ftCall(n, n, 7), ftCall(n, n),
	} {
		what := "kind " + strconv.Itoa(right.K)
		in := func(term impl.FTerm) impl.Prog { return progOf(ftLet("x", n, term), fun) }
		progIs(t, what, in(right), "")
		for parts := range 6 {
			term := right
			term.A = slices.Repeat([]impl.FTerm{n}, parts)
			faults := "parts"
			if parts == len(right.A) {
				faults = ""
			}
			progIs(t, what+" of "+strconv.Itoa(parts), in(term), faults)
		}
		fields := map[string]func(*impl.FTerm){
			"N": func(t *impl.FTerm) { t.N = 1 }, "S": func(t *impl.FTerm) { t.S = "x" }, "Z": func(t *impl.FTerm) { t.Z = "w" }, "L": func(t *impl.FTerm) { t.L = []string{"x"} }, "C": func(t *impl.FTerm) { t.Cases = []int{7} },
		}
		for field, change := range fields {
			term := right
			change(&term)
			faults := "field"
			if strings.Contains(bareFields[right.K], field) {
				continue
			}
			progIs(t, what+" with "+field, in(term), faults)
		}
		for _, k := range []int{impl.TmFn, impl.TmApp, impl.TmFix, 0, -1, 20, 21, math.MinInt, math.MaxInt} {
			term := right
			term.K = k
			progIs(t, what+" as "+strconv.Itoa(k), in(term), "kind")
		}
	}
	for _, k := range []int{impl.TmFn, impl.TmApp, impl.TmFix} {
		for _, term := range []impl.FTerm{{K: k}, {K: k, S: "x", A: []impl.FTerm{n}}, {K: k, A: []impl.FTerm{n, n}}, {K: k, S: "x", A: []impl.FTerm{ftMake(7, "x"), n}}, {K: k, S: "x", A: []impl.FTerm{{K: impl.TmFn, S: "x", A: []impl.FTerm{n}}, n}}} {
			if impl.ProgOk(progOf(term)) || impl.ProgOk(progOf(ftLet("x", n, term), fun)) || impl.ProgOk(progOf(n, ftFun(3, "x", term))) {
				t.Error("kind", k, term)
			}
		}
	}
	for n, want := range map[int]bool{-1: false, 0: true, 1: true, 2: false} {
		if impl.ProgOk(progOf(impl.FTerm{K: impl.TmBool, N: n})) != want {
			t.Error("truth", n)
		}
	}
	for op := -1; op < 8; op++ {
		if impl.ProgOk(progOf(ftOp(op, n, n))) != (op >= 1 && op <= 5) {
			t.Error("op", op)
		}
	}
}

// fullerProg has each kind, two Funs, and something of each sort to spoil.
func fullerProg() impl.Prog {
	return toldProg("fun 3 1 a x call 2 3 7 make 3 1 a op < v x n 1 | fun 7 2 b c y if t cons v b nil raise snd v c | main let p n 1 let q pair t u case h r cons v p nil n 0 try e call 1 7 make 7 2 p q fst v q pair make 3 1 e op - v h v e")
}

// Each change of each term and each Fun of a Prog, held against the test's own.
func TestProgOkOfEachChange(t *testing.T) {
	progIs(t, "whole", fullerProg(), "")
	alone := map[string]int{}
	right := 0
	look := func(why string, p impl.Prog) {
		faults := progFaults(p)
		progIs(t, why, p, strings.Join(faults, ", "))
		if len(faults) == 1 {
			alone[faults[0]]++
		}
		if len(faults) == 0 {
			right++
		}
	}
	whole := fullerProg()
	for i := range progNodes(&whole) {
		for why, change := range spoiling() {
			p := fullerProg()
			change(progNodes(&p)[i])
			look(why+" at "+strconv.Itoa(i), p)
		}
	}
	for i := range whole.Funs {
		for why, change := range funSpoiling() {
			p := fullerProg()
			change(&p.Funs[i])
			look(why+" of the Fun "+strconv.Itoa(i), p)
		}
	}
	p := fullerProg()
	slices.Reverse(p.Funs)
	look("turned", p)
	for _, fault := range []string{"lam order", "name", "kind", "parts", "field", "number", "not bound", "no fun", "count", "no fun in cases", "cases order", "one name"} {
		if alone[fault] == 0 {
			t.Errorf("%q is never alone", fault)
		}
	}
	if right < 20 {
		t.Error("too few", right)
	}
}

// Progs by chance, and the same ones with something spoilt.
func TestProgOkByChance(t *testing.T) {
	t.Parallel()
	r := rand.New(rand.NewSource(47))
	var changes []func(*impl.FTerm)
	for _, why := range sortedKeys(spoiling()) {
		changes = append(changes, spoiling()[why])
	}
	var funChanges []func(*impl.Fun)
	for _, why := range sortedKeys(funSpoiling()) {
		funChanges = append(funChanges, funSpoiling()[why])
	}
	right, wrong := 0, 0
	for _, p := range anyProgs(800) {
		progIs(t, plainProgText(p), p, "")
		for range 6 {
			more := evenProg(p)
			if len(more.Funs) > 0 && r.Intn(3) == 0 {
				funChanges[r.Intn(len(funChanges))](&more.Funs[r.Intn(len(more.Funs))])
			} else {
				nodes := progNodes(&more)
				changes[r.Intn(len(changes))](nodes[r.Intn(len(nodes))])
			}
			faults := progFaults(more)
			if len(faults) == 0 {
				right++
			} else {
				wrong++
			}
			progIs(t, "spoilt", more, strings.Join(faults, ", "))
		}
	}
	if right < 300 || wrong < 300 {
		t.Error("too few", right, wrong)
	}
}

func sortedKeys[T any](all map[string]T) []string {
	var keys []string
	for key := range all {
		keys = append(keys, key)
	}
	slices.Sort(keys)
	return keys
}

// bareOfNodes has this many nodes, and is as flat as can be.
func bareOfNodes(nodes int) impl.FTerm {
	switch nodes {
	case 1:
		return ftNum(1)
	case 2:
		return ftOf(impl.TmFst, ftNum(1))
	}
	half := (nodes - 1) / 2
	return ftOf(impl.TmPair, bareOfNodes(half), bareOfNodes(nodes-1-half))
}

func TestProgNodes(t *testing.T) {
	for nodes, faults := range map[int]string{1: "", 150: "", 151: "", 199: "", 200: "", 201: "nodes", 202: "nodes", 5000: "nodes"} {
		progIs(t, "Main of "+strconv.Itoa(nodes), progOf(bareOfNodes(nodes)), faults)
		if nodes > 1 {
			progIs(t, "a Fun and Main of "+strconv.Itoa(nodes), progOf(ftNum(1), ftFun(0, "x", bareOfNodes(nodes-1))), faults)
		}
		if nodes > 3 {
			half := (nodes - 1) / 2
			progIs(t, "all of "+strconv.Itoa(nodes), progOf(ftNum(1), ftFun(0, "x", bareOfNodes(half)), ftFun(9, "x", bareOfNodes(nodes-1-half))), faults)
		}
	}
	// 150 Funs of one node, and so many more in Main
	var funs []impl.Fun
	for lam := range 150 {
		funs = append(funs, ftFun(lam, "x", ftVar("x")))
	}
	progIs(t, "150 Funs", progOf(bareOfNodes(50), funs...), "")
	progIs(t, "150 Funs", progOf(bareOfNodes(51), funs...), "nodes")
	progIs(t, "150 Funs and one", progOf(ftNum(1), append(slices.Clone(funs), ftFun(150, "x", ftNum(1)))...), "lam")
}

// bareWraps put a term within another one, each in another place.
func bareWraps() map[string]func(impl.FTerm) impl.FTerm {
	n := ftNum(1)
	return map[string]func(impl.FTerm) impl.FTerm{
		"let first": func(t impl.FTerm) impl.FTerm { return ftLet("x", t, n) }, "let second": func(t impl.FTerm) impl.FTerm { return ftLet("x", n, t) },
		"if first": func(t impl.FTerm) impl.FTerm { return ftOf(impl.TmIf, t, n, n) }, "if second": func(t impl.FTerm) impl.FTerm { return ftOf(impl.TmIf, n, t, n) }, "if third": func(t impl.FTerm) impl.FTerm { return ftOf(impl.TmIf, n, n, t) },
		"pair first": func(t impl.FTerm) impl.FTerm { return ftOf(impl.TmPair, t, n) }, "pair second": func(t impl.FTerm) impl.FTerm { return ftOf(impl.TmPair, n, t) }, "fst": func(t impl.FTerm) impl.FTerm { return ftOf(impl.TmFst, t) }, "snd": func(t impl.FTerm) impl.FTerm { return ftOf(impl.TmSnd, t) },
		"cons first": func(t impl.FTerm) impl.FTerm { return ftOf(impl.TmCons, t, n) }, "cons second": func(t impl.FTerm) impl.FTerm { return ftOf(impl.TmCons, n, t) },
		"case first": func(t impl.FTerm) impl.FTerm { return ftCase("x", "y", t, n, n) }, "case second": func(t impl.FTerm) impl.FTerm { return ftCase("x", "y", n, t, n) }, "case third": func(t impl.FTerm) impl.FTerm { return ftCase("x", "y", n, n, t) },
		"op first": func(t impl.FTerm) impl.FTerm { return ftOp(1, t, n) }, "op second": func(t impl.FTerm) impl.FTerm { return ftOp(1, n, t) }, "raise": func(t impl.FTerm) impl.FTerm { return ftOf(impl.TmRaise, t) },
		"try first": func(t impl.FTerm) impl.FTerm { return ftTry("x", t, n) }, "try second": func(t impl.FTerm) impl.FTerm { return ftTry("x", n, t) }, "call first": func(t impl.FTerm) impl.FTerm { return ftCall(t, n) }, "call second": func(t impl.FTerm) impl.FTerm { return ftCall(n, t) },
	}
}

func TestProgDepth(t *testing.T) {
	for how, wrap := range bareWraps() {
		term := ftNum(1)
		for depth := 1; depth <= 26; depth++ {
			faults := ""
			if depth > 24 {
				faults = "depth"
			}
			progIs(t, how+" "+strconv.Itoa(depth), progOf(term), faults)
			progIs(t, how+" in a Fun "+strconv.Itoa(depth), progOf(ftNum(1), ftFun(4, "x", term)), faults)
			term = wrap(term)
		}
		// a wrong one as deep as can be
		wrong := impl.FTerm{}
		for range 23 {
			wrong = wrap(wrong)
		}
		progIs(t, how+" a wrong one", progOf(wrong), "kind")
	}
	deep := ftNum(1)
	for range 100000 {
		deep = ftOf(impl.TmFst, deep)
	}
	itself := []impl.FTerm{ftNum(1), {}}
	itself[1] = impl.FTerm{K: impl.TmPair, A: itself}
	shared := ftNum(1)
	for range 200 {
		shared = ftOf(impl.TmPair, shared, shared)
	}
	for why, term := range map[string]impl.FTerm{"deep": deep, "holds itself": itself[1], "shared without end": shared} {
		for _, p := range []impl.Prog{progOf(term), progOf(ftNum(1), ftFun(0, "x", term))} {
			if impl.ProgOk(p) || impl.RunProg(p, 500) != isNothing || impl.ProgText(p) != "" {
				t.Error(why)
			}
		}
	}
	many := progOf(impl.FTerm{K: impl.TmPair, A: make([]impl.FTerm, 100000)})
	progIs(t, "pair of many", many, "kind, nodes, parts")
	progIs(t, "many Funs", progOf(ftNum(1), make([]impl.Fun, 100000)...), "kind, lam order, name, nodes")
}

// As many names as one likes.
func TestProgOfManyNames(t *testing.T) {
	var names []string
	for i := range 3000 {
		names = append(names, "n"+strconv.Itoa(i))
	}
	p := progOf(ftLet("x", ftNum(7), ftCall(ftMake(0, slices.Repeat([]string{"x"}, 3000)...), ftNum(1), 0)), ftFun(0, "arg", ftCall(ftMake(1, names...), ftVar("n2999"), 1), names...), ftFun(1, "arg", ftOp(1, ftVar("n0"), ftVar("arg")), names...))
	progIs(t, "many names", p, "")
	asPlainRunProg(t, p, 100)
	p.Funs[0].Body.A[0].L[2999] = "n3000"
	progIs(t, "one that is none of them", p, "not bound")
}

func TestRunProgOfEachKind(t *testing.T) {
	for _, c := range []runCase{
		{"main n 5", "5", 1}, {"main n -1000000", "-1000000", 1}, {"main t", "t", 1}, {"main u", "u", 1}, {"main nil", "[]", 1}, {"main let x n 1 v x", "1", 3}, {"main if t n 1 n 2", "1", 3}, {"main if u n 1 n 2", "2", 3}, {"main pair n 1 t", "(1,t)", 3}, {"main fst pair n 1 t", "1", 4}, {"main snd pair n 1 t", "t", 4},
		{"main cons n 1 cons n 2 nil", "[1,2]", 5}, {"main case h r nil n 1 v h", "1", 3}, {"main case h r cons n 4 nil n 1 pair v h v r", "(4,[])", 7}, {"main op + n 2 n 3", "5", 3}, {"main op - n 2 n 3", "-1", 3}, {"main op * n 2 n 3", "6", 3}, {"main op < n 2 n 3", "t", 3}, {"main op = n 2 n 3", "u", 3},
		{"main op + n 1000000 n 1", "raise -1", 3}, {"main op * n 1000 n -1001", "raise -1", 3}, {"main op - n -1000000 n 0", "-1000000", 3}, {"main raise n 5", "raise 5", 2}, {"main try e n 1 v e", "1", 2}, {"main try e raise n 7 v e", "7", 4}, {"main try e op * n 1000000 n 2 v e", "-1", 5},
		// records, and calls of them
		{"fun 4 0 x v x | main make 4 0", "fn", 1}, {"fun 4 0 x v x | main call 1 4 make 4 0 n 8", "8", 4}, {"fun 4 0 x n 3 | main call 1 4 make 4 0 n 8", "3", 4}, {"fun 4 0 x make 4 0 | main call 1 4 call 1 4 make 4 0 n 8 n 9", "fn", 7},
		{"fun 4 1 a x op - v a v x | main let b n 10 call 1 4 make 4 1 b n 3", "7", 8}, {"fun 4 2 a b x op - v a v b | main let a n 10 let b n 3 call 1 4 make 4 2 b a n 0", "-7", 10}, {"fun 4 2 a b x op - v a v b | main let a n 10 let b n 3 call 1 4 make 4 2 a b n 0", "7", 10}, {"fun 4 2 a b x op - v a v b | main let a n 10 call 1 4 make 4 2 a a n 0", "0", 8},
		{"fun 4 1 a x make 5 2 x a | fun 5 2 b c y pair v b pair v c v y | main let q n 1 call 1 5 call 1 4 make 4 1 q n 2 n 3", "(2,(1,3))", 13},
		// as text, within pairs and lists
		{"fun 4 0 x v x | main pair make 4 0 cons make 4 0 cons make 4 0 nil", "(fn,[fn,fn])", 7}, {"fun 4 0 x v x | main cons pair make 4 0 t nil", "[(fn,t)]", 5},
		// what a name has where the record is made, not where it is called
		{"fun 4 1 a x v a | main let a n 1 let f make 4 1 a let a n 2 call 1 4 v f n 0", "1", 10}, {"fun 4 1 a x v a | main let a n 1 let g make 4 1 a let a n 2 call 1 4 make 4 1 a n 0", "2", 10},
		// names that hide: an argument hides what is captured, what is bound within hides both
		{"fun 4 1 x x v x | main let a n 1 call 1 4 make 4 1 a n 2", "2", 6}, {"fun 4 1 a x let a n 7 v a | main let a n 1 call 1 4 make 4 1 a n 2", "7", 8}, {"fun 4 0 x let x op + v x n 1 op * v x v x | main call 1 4 make 4 0 n 2", "9", 10},
		// what is behind a call is as it was ahead of it
		{"fun 4 0 x let y n 5 v y | main let y n 1 let x n 2 pair call 1 4 make 4 0 n 9 pair v x v y", "(5,(2,1))", 14},
		{"fun 2 0 x if op < v x n 1 n 0 op + v x call 1 2 make 2 0 op - v x n 1 | main call 1 2 make 2 0 n 3", "6", 41},
	} {
		ranProg(t, c.text, c.told, c.steps)
	}
}

// What is no record, and what is none of the cases: behind the argument.
func TestRunProgWithoutACase(t *testing.T) {
	for _, c := range []runCase{
		{"fun 1 0 x v x | main call 0 make 1 0 n 5", "raise -3", 3}, {"fun 1 0 x v x | fun 2 0 x n 9 | main call 1 2 make 1 0 n 5", "raise -3", 3}, {"fun 1 0 x v x | fun 2 0 x n 9 | main call 1 1 make 2 0 n 5", "raise -3", 3}, {"fun 1 0 x v x | fun 2 0 x n 9 | main call 1 2 make 2 0 n 5", "9", 4}, {"fun 1 0 x v x | fun 2 0 x n 9 | main call 2 1 2 make 2 0 n 5", "9", 4},
		{"fun 1 0 x v x | main try e call 0 make 1 0 n 5 v e", "-3", 5}, {"fun 1 0 x v x | main call 0 make 1 0 raise n 7", "raise 7", 4}, {"fun 1 0 x v x | main call 0 raise n 6 raise n 7", "raise 6", 3}, {"fun 1 0 x call 0 make 1 0 v x | main call 1 1 make 1 0 n 3", "raise -3", 6},
		{"main call 0 n 5 n 6", "raise -2", 3}, {"fun 1 0 x v x | main call 1 1 n 5 n 6", "raise -2", 3}, {"fun 1 0 x v x | main call 1 1 t n 6", "raise -2", 3}, {"fun 1 0 x v x | main call 1 1 pair make 1 0 n 1 n 6", "raise -2", 5}, {"fun 1 0 x v x | main call 1 1 nil n 6", "raise -2", 3}, {"fun 1 0 x v x | main call 1 1 cons make 1 0 nil n 6", "raise -2", 5},
		{"main call 0 n 5 raise n 7", "raise 7", 4}, {"main try e call 0 n 5 n 6 v e", "-2", 5}, {"main call 0 n 1 op + n 1000000 n 1", "raise -1", 5},
		// a record where something else is wanted
		{"fun 1 0 x v x | main if make 1 0 n 1 n 2", "raise -2", 2}, {"fun 1 0 x v x | main op + make 1 0 n 2", "raise -2", 3}, {"fun 1 0 x v x | main op + n 2 make 1 0", "raise -2", 3}, {"fun 1 0 x v x | main fst make 1 0", "raise -2", 2}, {"fun 1 0 x v x | main snd make 1 0", "raise -2", 2}, {"fun 1 0 x v x | main cons n 1 make 1 0", "raise -2", 3}, {"fun 1 0 x v x | main case h r make 1 0 n 1 n 2", "raise -2", 2}, {"fun 1 0 x v x | main raise make 1 0", "raise -2", 2},
		// raises within what is tried, within a call that is tried, and behind it
		{"fun 1 0 x raise v x | main try e call 1 1 make 1 0 n 5 op + v e n 1", "6", 9}, {"fun 1 0 x try e raise v x op + v e n 1 | main call 1 1 make 1 0 n 5", "6", 9}, {"fun 1 0 x try e v x n 9 | main op + call 1 1 make 1 0 n 5 raise n 8", "raise 8", 8}, {"fun 1 0 x raise v x | main try e call 1 1 make 1 0 n 5 raise op * v e n 2", "raise 10", 10},
		{"fun 1 0 x raise v x | main try e try d call 1 1 make 1 0 n 5 raise op * v d n 2 op + v e n 1", "11", 14}, {"fun 1 0 x try e call 0 make 1 0 v x v e | main pair call 1 1 make 1 0 n 5 call 0 make 1 0 n 5", "raise -3", 12},
	} {
		ranProg(t, c.text, c.told, c.steps)
	}
}

func TestRunProgFuel(t *testing.T) {
	p := toldProg("fun 2 0 x call 1 2 make 2 0 v x | main call 1 2 make 2 0 n 3")
	for _, fuel := range []int{0, 1, 2, 500, 19999, 20000} {
		if end := impl.RunProg(p, fuel); end != isFuel {
			t.Error(fuel, end)
		}
		asPlainRunProg(t, p, fuel)
	}
	for _, fuel := range []int{-1, 20001, math.MinInt, math.MaxInt} {
		for _, p := range []impl.Prog{p, progOf(ftNum(1)), {}} {
			if end := impl.RunProg(p, fuel); end != isNothing {
				t.Error(fuel, end)
			}
		}
	}
	// out of fuel within what is tried, which is no raise
	for fuel := range 40 {
		asPlainRunProg(t, toldProg("fun 2 0 x try e call 1 2 make 2 0 v x n 1 | main try e call 1 2 make 2 0 n 3 n 2"), fuel)
	}
	// just enough of the greatest fuel, and one too few: a loop that takes 9 steps each time, what is ahead of it takes the rest
	enough, tooFew := 0, 0
	for wait := range 20 {
		loop := toldProg("fun 2 0 x if op < v x n 1 n 7 call 1 2 make 2 0 op - v x n 1 | main call 1 2 make 2 0 n 2221")
		for range wait {
			loop.Main = ftTry("e", loop.Main, ftNum(0))
		}
		end, m := asPlainRunProg(t, loop, impl.MaxFuel)
		asPlainRunProg(t, loop, impl.MaxFuel-1)
		if end == isValue("7") && m.steps == impl.MaxFuel {
			enough++
		}
		if end == isFuel {
			tooFew++
		}
	}
	if enough != 1 || tooFew < 2 {
		t.Error("the test's own", enough, tooFew)
	}
}

// Progs by chance, whatever they come to, with each fuel that matters.
func TestRunProgByChance(t *testing.T) {
	t.Parallel()
	values, raises, fuels, noCase, wrong, fns := 0, 0, 0, 0, 0, 0
	for _, p := range anyProgs(2500) {
		end, m := asPlainRunProg(t, p, 3000)
		switch end.End {
		case impl.EndValue:
			values++
		case impl.EndRaise:
			raises++
		default:
			fuels++
		}
		if m.noCase > 0 {
			noCase++
		}
		if m.wrong > 0 {
			wrong++
		}
		if strings.Contains(end.Text, "fn") {
			fns++
		}
		for fuel := range min(m.steps+2, 30) {
			asPlainRunProg(t, p, fuel)
		}
		if end != isFuel {
			ranProgTo(t, "by chance", p, end, m.steps)
		}
	}
	if values < 500 || raises < 300 || fuels < 20 || noCase < 20 || wrong < 200 || fns < 50 {
		t.Error("too few", values, raises, fuels, noCase, wrong, fns)
	}
}

// A text of any length is told whole, but for what no memory holds; so is it by Run.
func TestRunProgLongTexts(t *testing.T) {
	whole, text := ftVar("x"), "fn"
	for range 18 {
		whole = ftLet("x", ftOf(impl.TmPair, ftVar("x"), ftVar("x")), whole)
		text = "(" + text + "," + text + ")"
	}
	p := progOf(ftLet("x", ftMake(0), whole), ftFun(0, "x", ftNum(1)))
	if got := impl.RunProg(p, 200); got != isValue(text) {
		t.Error(got.End, len(got.Text))
	}
	// 2^40 records: by a function that calls itself
	p = toldProg("fun 0 0 p case h r snd v p fst v p call 1 0 make 0 0 pair pair fst v p fst v p v r | main n 0")
	list := ftOf(impl.TmNil)
	for range 20 {
		list = ftOf(impl.TmCons, ftNum(1), list)
	}
	twice := func(first impl.FTerm) impl.FTerm { return ftCall(ftMake(0), ftOf(impl.TmPair, first, ftVar("l")), 0) }
	p.Main = ftLet("l", list, twice(twice(ftMake(0))))
	progIs(t, "2^40", p, "")
	if got := impl.RunProg(p, impl.MaxFuel); got != isFuel {
		t.Error(got.End, len(got.Text))
	}
	p.Main = ftLet("l", list, ftOf(impl.TmFst, ftOf(impl.TmPair, ftNum(5), twice(twice(ftMake(0))))))
	if got := impl.RunProg(p, impl.MaxFuel); got != isValue("5") {
		t.Error(got.End, len(got.Text))
	}
}

// Deep calls: as deep as the fuel goes.
func TestRunProgDeep(t *testing.T) {
	p := toldProg("fun 2 0 x op + n 0 call 1 2 make 2 0 v x | main call 1 2 make 2 0 n 3")
	if end, _ := asPlainRunProg(t, p, impl.MaxFuel); end != isFuel {
		t.Error(end)
	}
	p = toldProg("fun 2 0 x try e call 1 2 make 2 0 v x v e | main try e call 1 2 make 2 0 n 3 v e")
	if end, _ := asPlainRunProg(t, p, impl.MaxFuel); end != isFuel {
		t.Error(end)
	}
	p = toldProg("fun 2 0 x if op < v x n 1 raise n 4 op + n 1 call 1 2 make 2 0 op - v x n 1 | main try e call 1 2 make 2 0 n 1500 op + v e n 1")
	if end, _ := asPlainRunProg(t, p, impl.MaxFuel); end != isValue("5") {
		t.Error(end)
	}
}

func TestProgText(t *testing.T) {
	for _, lines := range []string{
		"main n 0", "main n -1000000", "main t", "main u", "main nil", "main let x n 1 v x", "main if t n 1 n 2", "main pair n 1 n 2", "main fst n 1", "main snd n 1", "main cons n 1 nil", "main case h r nil n 1 v h",
		"main op + n 1 n 2", "main op - n 1 n 2", "main op * n 1 n 2", "main op < n 1 n 2", "main op = n 1 n 2", "main raise n 1", "main try e n 1 v e", "main call 0 n 1 n 2",
		"fun 0 0 x n 1 | main make 0 0", "fun 149 0 x v x | main call 1 149 make 149 0 n 2", "fun 3 1 a x v a | main let b n 1 make 3 1 b", "fun 3 3 a b c x v a | main let b n 1 make 3 3 b b b", "fun 3 2 p.q a abcdefgh v p.q | main n 1",
		"fun 0 0 x n 1 | fun 1 0 x n 2 | fun 10 0 y n 3 | fun 100 0 z n 4 | main call 4 0 1 10 100 n 1 n 2", "fun 7 0 x call 2 7 9 make 9 1 x v x | fun 9 1 a x call 1 7 make 7 0 v a | main n -7",
	} {
		p := toldProg(lines)
		progIs(t, lines, p, "")
		if got, want := impl.ProgText(p), strings.ReplaceAll(lines, " | ", "\n")+"\n"; got != want {
			t.Errorf("%q, not %q", got, want)
		}
	}
	p := fullerProg()
	want := "fun 3 1 a x call 2 3 7 make 3 1 a op < v x n 1\nfun 7 2 b c y if t cons v b nil raise snd v c\nmain let p n 1 let q pair t u case h r cons v p nil n 0 try e call 1 7 make 7 2 p q fst v q pair make 3 1 e op - v h v e\n"
	if got := impl.ProgText(p); got != want {
		t.Errorf("%q", got)
	}
	for _, p := range anyProgs(500) {
		lines := strings.Split(strings.TrimSuffix(impl.ProgText(p), "\n"), "\n")
		if back := toldProg(strings.Join(lines, " | ")); !equalProgs(back, p) {
			t.Errorf("%q", impl.ProgText(p))
		}
	}
}

// Terms of 150 nodes and of 24 deep.
func TestDefunOfTheGreatestTerms(t *testing.T) {
	terms := []impl.Term{readied(mostBinders("x", "y")), readied(deepestLets("x")), sumOfNodes(150), readied(tickled(30, 10))}
	for how, wrap := range wraps() {
		for _, times := range []int{22, 23} {
			whole := wrapped(wrap, times, tmNum(1))
			if how == "fix second" {
				whole = wrapped(wrap, times, tmVar("f"))
			}
			if impl.TermOk(whole) {
				terms = append(terms, readied(whole))
			}
		}
	}
	for _, term := range terms {
		p := asPlainDefun(t, term)
		endsTheSame(t, term, p)
	}
	// the last node a function's, its number 148
	term := tmOf(impl.TmPair, sumOfNodes(147), tmFn("x", tyInt, tmVar("x")))
	if p := asPlainDefun(t, term); plainNodes(term) != 150 || len(p.Funs) != 1 || p.Funs[0].Lam != 148 {
		t.Error(impl.ProgText(p))
	}
	// functions within each other: the innermost one captures all that is around it
	deep := balanced(countedVars(18))
	for i := 17; i >= 0; i-- {
		deep = tmFn("x"+strconv.Itoa(i), tyInt, deep)
	}
	p := asPlainDefun(t, deep)
	if len(p.Funs) != 18 || len(p.Funs[17].L) != 17 || plainDepth(deep) != 24 {
		t.Error(plainDepth(deep), impl.ProgText(p))
	}
	// many functions, each of which captures much
	whole := tmNum(0)
	for i := range 7 {
		whole = tmOf(impl.TmPair, tmFn("y"+strconv.Itoa(i), tyInt, balanced(countedVars(8))), whole)
	}
	for i := 7; i >= 0; i-- {
		whole = tmLet("x"+strconv.Itoa(i), 0, tmNum(i), whole)
	}
	p = asPlainDefun(t, whole)
	endsTheSame(t, whole, p)
	if len(p.Funs) != 7 || len(p.Funs[0].L) != 8 || len(p.Funs[6].L) != 8 || plainNodes(whole) != 136 {
		t.Error(plainNodes(whole), impl.ProgText(p))
	}
}

// Four that call themselves within each other, each with a name of its own, and one within them all that calls them all: what each captures goes all the way in.
func TestDefunOfATightKnot(t *testing.T) {
	calls := []impl.Term{}
	for i := range 4 {
		calls = append(calls, tmOf(impl.TmApp, tmVar("f"+strconv.Itoa(i)), tmVar("z")))
	}
	knot := tmOf(impl.TmApp, tmFn("z", tyInt, balanced(calls)), tmNum(0))
	for i := 3; i >= 0; i-- {
		s := strconv.Itoa(i)
		fn := tmFn("y"+s, tyInt, tmOf(impl.TmIf, tmOp(4, tmVar("y"+s), tmVar("x"+s)), tmNum(i), knot))
		knot = tmLet("x"+s, 0, tmNum(1), tmFix("f"+s, 0, tyInt, fn, tmOf(impl.TmApp, tmVar("f"+s), tmNum(3))))
	}
	if depth := plainDepth(knot); depth > 24 || depth < 21 {
		t.Fatal("the test's own", depth)
	}
	p := asPlainDefun(t, knot)
	end, m := endsTheSame(t, knot, p)
	if end != isValue("((0,1),(2,3))") || m.steps < 40 {
		t.Error(end)
	}
	for i, want := range []string{"x0", "x1 x0", "x2 x0 x1", "x3 x0 x1 x2", "x0 x1 x2 x3"} {
		// a function's own name comes first, then what the others around it capture
		if len(p.Funs) != 5 || !slices.Equal(p.Funs[i].L, strings.Fields(want)) {
			t.Errorf("%d: %q, not %q", i, impl.ProgText(p), want)
		}
	}
}

// balanced has these terms in pairs, as flat as can be.
func balanced(terms []impl.Term) impl.Term {
	if len(terms) == 1 {
		return terms[0]
	}
	half := len(terms) / 2
	return tmOf(impl.TmPair, balanced(terms[:half]), balanced(terms[half:]))
}

// countedVars are the names x0, x1 and so on.
func countedVars(n int) []impl.Term {
	var vars []impl.Term
	for i := range n {
		vars = append(vars, tmVar("x"+strconv.Itoa(i)))
	}
	return vars
}

// Defun goes by the binders, not by their names, and not by types.
func TestDefunForgetsNamesAndTypes(t *testing.T) {
	for _, term := range slices.Concat(wiredTerms(200), knots(200)) {
		other := evenTerm(readied(term))
		for _, n := range plainNodesIn(&other) {
			if n.t.T.K != 0 {
				n.t.T = tyList(tyPair(tyBool, tyFun(tyInt, tyInt)))
			}
		}
		before, _ := impl.Defun(term)
		after, ok := impl.Defun(other)
		names := map[string]string{}
		for i, s := range impl.Binders(term) {
			names[s] = impl.Binders(other)[i]
		}
		if renamed := renamedProg(before, names); !ok || !equalProgs(renamed, after) {
			t.Errorf("%s: %q, not %q", plainTermText(term), impl.ProgText(after), impl.ProgText(renamed))
		}
	}
}

func renamedProg(p impl.Prog, names map[string]string) impl.Prog {
	more := evenProg(p)
	rename := func(list []string) {
		for i, s := range list {
			list[i] = names[s]
		}
	}
	for i := range more.Funs {
		more.Funs[i].S = names[more.Funs[i].S]
		rename(more.Funs[i].L)
	}
	for _, n := range progNodes(&more) {
		n.S, n.Z = names[n.S], names[n.Z]
		rename(n.L)
	}
	return more
}

// defunArguments are Progs of all sorts, right and wrong.
func defunArguments() []impl.Prog {
	all := append(anyProgs(150), fullerProg(), impl.Prog{})
	for _, term := range slices.Concat(knots(60), flowTerms(40)) {
		p, _ := impl.Defun(term)
		all = append(all, p)
	}
	for _, why := range sortedKeys(spoiling()) {
		p := fullerProg()
		nodes := progNodes(&p)
		spoiling()[why](nodes[len(nodes)/2])
		all = append(all, p)
	}
	for _, why := range sortedKeys(funSpoiling()) {
		p := fullerProg()
		funSpoiling()[why](&p.Funs[1])
		all = append(all, p)
	}
	return all
}

func TestDefunArgumentsStay(t *testing.T) {
	t.Parallel()
	for _, term := range append(flowArguments(), knots(100)...) {
		roomy := roomyTerm(term)
		kept := fullTerm(roomy)
		impl.Defun(roomy)
		if !reflect.DeepEqual(fullTerm(roomy), kept) {
			t.Fatal("an argument was written to", term)
		}
	}
	for _, p := range defunArguments() {
		roomy := roomyProg(p)
		kept := fullProg(roomy)
		impl.ProgOk(roomy)
		impl.RunProg(roomy, 500)
		impl.ProgText(roomy)
		if !reflect.DeepEqual(fullProg(roomy), kept) {
			t.Fatal("an argument was written to", p)
		}
	}
}

// What lies behind a list's length is not there.
func TestDefunSpareRoomIsNotRead(t *testing.T) {
	t.Parallel()
	for _, term := range append(flowArguments(), knots(100)...) {
		want, ready := impl.Defun(term)
		if got, ok := impl.Defun(roomyTerm(term)); ok != ready || !equalProgs(got, want) {
			t.Error(impl.TermText(term))
		}
	}
	for _, p := range defunArguments() {
		roomy := roomyProg(p)
		if impl.ProgOk(roomy) != impl.ProgOk(p) || impl.RunProg(roomy, 500) != impl.RunProg(p, 500) || impl.ProgText(roomy) != impl.ProgText(p) {
			t.Error(impl.ProgText(p))
		}
	}
	// lists that lie in the room of others
	room := []string{"a", "b", "a", "x"}
	lams := []int{3, 7, 3}
	parts := []impl.FTerm{ftVar("x"), ftVar("a"), ftVar("b")}
	p := progOf(ftNum(1), impl.Fun{Lam: 3, L: room[:1], S: "x", Body: impl.FTerm{K: impl.FkCall, Cases: lams[:2], A: parts[:2]}}, impl.Fun{Lam: 7, L: room[:2], S: "x", Body: impl.FTerm{K: impl.FkCall, Cases: lams[:1], A: parts[1:]}})
	progIs(t, "one room", p, "")
	if !slices.Equal(room, []string{"a", "b", "a", "x"}) || !slices.Equal(lams, []int{3, 7, 3}) || parts[2].S != "b" {
		t.Error("written into the room", room, lams, parts)
	}
}

func TestDefunAnswersAreNewMemory(t *testing.T) {
	t.Parallel()
	// with one list at many places
	shared := tmFn("x", tyPair(tyList(tyInt), tyBool), tmVar("x"))
	same := tmOf(impl.TmPair, tmNum(1), tmNum(2))
	for _, term := range slices.Concat(flowArguments(), knots(300), []impl.Term{tmShared(4, same), tmOf(impl.TmApp, shared, tmShared(3, same)), tmShared(3, shared)}) {
		first, _ := impl.Defun(term)
		second, _ := impl.Defun(term)
		ownPlaces(t, "Defun "+impl.TermText(term), append(progPlaces(first), progPlaces(second)...), placesOf(term))
	}
	// what is done to one answer is not done to another
	term := parsedTerm(t, "let a 0 n 1 fix f 0 f i i fn x i if op < v x 0 n 1 v a 0 app v f 0 op - v x 0 v a 0 app v f 0 n 3")
	first, _ := impl.Defun(term)
	want := impl.ProgText(first)
	for _, n := range progNodes(&first) {
		for i := range n.L {
			n.L[i] = "q"
		}
		for i := range n.Cases {
			n.Cases[i] = 99
		}
		n.N, n.S = 77, "q"
	}
	first.Funs[0].L[0] = "q"
	if second, _ := impl.Defun(term); impl.ProgText(second) != want {
		t.Errorf("%q, not %q", impl.ProgText(second), want)
	}
}

// Nothing is kept from one call to another.
func TestDefunKeepsNothing(t *testing.T) {
	all := slices.Concat(knots(120), wiredTerms(80))
	var progs []impl.Prog
	var texts []string
	var ends []impl.Outcome
	for _, term := range all {
		p, _ := impl.Defun(term)
		progs = append(progs, p)
		texts = append(texts, impl.ProgText(p))
		ends = append(ends, impl.RunProg(p, 700))
	}
	for i, term := range slices.Backward(all) {
		impl.Defun(impl.Term{})
		impl.ProgOk(impl.Prog{})
		impl.RunProg(progs[len(all)-1-i], 30)
		p, ok := impl.Defun(term)
		if !ok || impl.ProgText(p) != texts[i] || impl.RunProg(p, 700) != ends[i] || !equalProgs(p, progs[i]) {
			t.Error(plainTermText(term))
		}
	}
}
