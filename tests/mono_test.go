package tests

import (
	"math/rand"
	"reflect"
	"slices"
	"strconv"
	"strings"
	"testing"

	"loop.example/g00187/impl"
)

func TestMonoConstants(t *testing.T) {
	got := []int{impl.MaxCopies, impl.MonoGood, impl.MonoForm, impl.MonoMany, impl.MonoBig}
	if want := []int{30, 0, 1, 2, 3}; !reflect.DeepEqual(got, want) {
		t.Error(got, want)
	}
}

// monoCase is a program, what comes of it, and how many copies it has.
type monoCase struct {
	text, want string
	copies     int
}

func monoedAll(t *testing.T, cases []monoCase) {
	t.Helper()
	for _, c := range cases {
		monoed(t, c.text, c.want, c.copies)
	}
}

func TestMonoLet(t *testing.T) {
	monoedAll(t, []monoCase{
		// no instance, one, several, the same one again
		{"let id 1 fn x v0 v x 0 n 3", "n 3", 0},
		{"let id 2 fn x v0 v x 0 n 3", "n 3", 0},
		{"let id 1 fn x v0 v x 0 app v id 1 i n 3", "let id.0 0 fn x i v x 0 app v id.0 0 n 3", 1},
		{"let id 1 fn x v0 v x 0 op + app v id 1 i n 3 app v id 1 i n 4", "let id.0 0 fn x i v x 0 op + app v id.0 0 n 3 app v id.0 0 n 4", 1},
		{"let id 1 fn x v0 v x 0 if app v id 1 b t app v id 1 i n 1 app v id 1 i n 2", "let id.0 0 fn x b v x 0 let id.1 0 fn x i v x 0 if app v id.0 0 t app v id.1 0 n 1 app v id.1 0 n 2", 2},
		{"let id 1 fn x v0 v x 0 if app v id 1 b t app v id 1 l i nil i app v id 1 l i app app v id 1 f l i l i v id 1 l i nil i",
			"let id.0 0 fn x b v x 0 let id.1 0 fn x l i v x 0 let id.2 0 fn x f l i l i v x 0 if app v id.0 0 t app v id.1 0 nil i app v id.1 0 app app v id.2 0 v id.1 0 nil i", 3},
		// two type variables: a row is both, in their order
		{"let k 2 fn x v0 fn y v1 v x 0 app app v k 2 i b n 1 t", "let k.0 0 fn x i fn y b v x 0 app app v k.0 0 n 1 t", 1},
		{"let k 2 fn x v0 fn y v1 v x 0 op + app app v k 2 i b n 1 t app app v k 2 i b n 2 u", "let k.0 0 fn x i fn y b v x 0 op + app app v k.0 0 n 1 t app app v k.0 0 n 2 u", 1},
		{"let k 2 fn x v0 fn y v1 v x 0 if app app v k 2 b i t n 1 app app v k 2 i b n 1 t app app v k 2 i i n 1 n 2",
			"let k.0 0 fn x b fn y i v x 0 let k.1 0 fn x i fn y b v x 0 let k.2 0 fn x i fn y i v x 0 if app app v k.0 0 t n 1 app app v k.1 0 n 1 t app app v k.2 0 n 1 n 2", 3},
		// rows that are alike but for where the first type ends
		{"let c 2 n 5 op + v c 2 l i b v c 2 i l b", "let c.0 0 n 5 let c.1 0 n 5 op + v c.0 0 v c.1 0", 2},
		{"let c 2 n 5 op + v c 2 p i b i v c 2 i p b i", "let c.0 0 n 5 let c.1 0 n 5 op + v c.0 0 v c.1 0", 2},
		// type variables that do not stand in it
		{"let c 1 n 5 op + v c 1 i v c 1 b", "let c.0 0 n 5 let c.1 0 n 5 op + v c.0 0 v c.1 0", 2},
		{"let c 2 fn x v1 v x 0 op + app v c 2 i i n 1 app v c 2 b i n 2", "let c.0 0 fn x i v x 0 let c.1 0 fn x i v x 0 op + app v c.0 0 n 1 app v c.1 0 n 2", 2},
		// each kind of value
		{"let c 1 t v c 1 l i", "let c.0 0 t v c.0 0", 1},
		{"let e 1 nil v0 cons n 1 v e 1 i", "let e.0 0 nil i cons n 1 v e.0 0", 1},
		{"let e 1 nil p v0 l v0 case h r v e 1 b n 0 n 1", "let e.0 0 nil p b l b case h r v e.0 0 n 0 n 1", 1},
		{"let x 0 n 4 let c 1 v x 0 v c 1 b", "let x 0 n 4 let c.0 0 v x 0 v c.0 0", 1},
		{"let e 1 nil v0 let d 1 v e 1 l v0 case h r v d 1 i nil i v h 0", "let e.1 0 nil l i let d.0 0 v e.1 0 case h r v d.0 0 nil i v h 0", 2},
		// types all over a copy, and bindings without type variables within it
		{"let f 2 fn x v0 let y 0 fn z p v0 v1 fst v z 0 fix g 0 f v1 v0 fn u v1 raise v0 n 1 case h r nil v1 v x 0 try e app v g 0 v h 0 v x 0 app v f 2 i l b n 3",
			"let f.0 0 fn x i let y 0 fn z p i l b fst v z 0 fix g 0 f l b i fn u l b raise i n 1 case h r nil l b v x 0 try e app v g 0 v h 0 v x 0 app v f.0 0 n 3", 1},
	})
}

func TestMonoFix(t *testing.T) {
	monoedAll(t, []monoCase{
		{"fix f 1 f v0 v0 fn x v0 v x 0 n 3", "n 3", 0},
		{"fix f 1 f v0 v0 fn x v0 app v f 0 v x 0 n 3", "n 3", 0},
		{"fix f 1 f v0 v0 fn x v0 v x 0 app v f 1 i n 3", "fix f.0 0 f i i fn x i v x 0 app v f.0 0 n 3", 1},
		{"fix f 1 f v0 v0 fn x v0 v x 0 if app v f 1 b t app v f 1 i n 3 app v f 1 i n 4", "fix f.0 0 f b b fn x b v x 0 fix f.1 0 f i i fn x i v x 0 if app v f.0 0 t app v f.1 0 n 3 app v f.1 0 n 4", 2},
		// it calls itself
		{"fix len 1 f l v0 i fn l l v0 case h r v l 0 n 0 op + n 1 app v len 0 v r 0 app v len 1 b cons t cons u nil b",
			"fix len.0 0 f l b i fn l l b case h r v l 0 n 0 op + n 1 app v len.0 0 v r 0 app v len.0 0 cons t cons u nil b", 1},
		{"fix len 1 f l v0 i fn l l v0 case h r v l 0 n 0 op + n 1 app v len 0 v r 0 op + app v len 1 b cons t nil b app v len 1 i cons n 1 cons n 2 nil i",
			"fix len.0 0 f l b i fn l l b case h r v l 0 n 0 op + n 1 app v len.0 0 v r 0 fix len.1 0 f l i i fn l l i case h r v l 0 n 0 op + n 1 app v len.1 0 v r 0 " +
				"op + app v len.0 0 cons t nil b app v len.1 0 cons n 1 cons n 2 nil i", 2},
		{"fix map 2 f f v0 v1 f l v0 l v1 fn g f v0 v1 fn l l v0 case h r v l 0 nil v1 cons app v g 0 v h 0 app app v map 0 v g 0 v r 0 app app v map 2 b i fn x b n 1 app app v map 2 i b fn x i t nil i",
			"fix map.0 0 f f b i f l b l i fn g f b i fn l l b case h r v l 0 nil i cons app v g 0 v h 0 app app v map.0 0 v g 0 v r 0 " +
				"fix map.1 0 f f i b f l i l b fn g f i b fn l l i case h r v l 0 nil b cons app v g 0 v h 0 app app v map.1 0 v g 0 v r 0 app app v map.0 0 fn x b n 1 app app v map.1 0 fn x i t nil i", 2},
		// it is handed on within its own function, more than once
		{"fix f 1 f v0 v0 fn x v0 let g 0 v f 0 if u app v g 0 app v f 0 v x 0 v x 0 app v f 1 i n 3", "fix f.0 0 f i i fn x i let g 0 v f.0 0 if u app v g 0 app v f.0 0 v x 0 v x 0 app v f.0 0 n 3", 1},
		// a binding without type variables that calls itself, within a copy
		{"let g 1 fn y v0 fix f 0 f v0 v0 fn x v0 if t v x 0 app v f 0 v x 0 app v f 0 v y 0 app v g 1 i n 3", "let g.0 0 fn y i fix f 0 f i i fn x i if t v x 0 app v f 0 v x 0 app v f 0 v y 0 app v g.0 0 n 3", 1},
	})
}

// What has nothing to copy comes as it was.
func TestMonoWithNothingToCopy(t *testing.T) {
	for _, text := range []string{
		"n 1", "t", "u", "nil i", "cons n 1 nil i", "raise l i n 1", "let x 0 n 1 v x 0", "fix s 0 f i i fn n i if op < v n 0 n 1 n 0 op + v n 0 app v s 0 op - v n 0 n 1 app v s 0 n 10",
		"app fn x p i b fst v x 0 pair n 1 t", "try e raise i n 3 v e 0", "case h r cons n 1 nil i n 0 v h 0", "let longname 0 n 1 v longname 0", "fix longname 0 f i i fn argument i v argument 0 app v longname 0 n 1",
	} {
		monoed(t, text, text, 0)
	}
	for _, term := range append(typedTerms(3000), loopTerms(1500)...) {
		if !impl.Program(term) || !plainIsMono(term) {
			continue
		}
		monoedTerm(t, term, term, impl.MonoGood, 0)
		keptAll(t, term)
	}
	largest := sumOfNodes(150)
	monoedTerm(t, largest, largest, impl.MonoGood, 0)
	deepest := wrapped(func(t impl.Term) impl.Term { return tmOp(1, tmNum(1), t) }, 23, tmNum(1))
	monoedTerm(t, deepest, deepest, impl.MonoGood, 0)
}

// Types that have variables where they stand are instances once these are put.
func TestMonoInstancesWithinCopies(t *testing.T) {
	monoedAll(t, []monoCase{
		{"let a 1 fn x v0 v x 0 let b 1 fn y v0 app v a 1 l v0 cons v y 0 nil v0 case h r app v b 1 i n 4 n 0 v h 0", "let a.1 0 fn x l i v x 0 let b.0 0 fn y i app v a.1 0 cons v y 0 nil i case h r app v b.0 0 n 4 n 0 v h 0", 2},
		// one use, two instances; and two uses that come to one
		{"let a 1 n 1 let b 1 v a 1 l v0 op + v b 1 i v b 1 b", "let a.2 0 n 1 let a.3 0 n 1 let b.0 0 v a.2 0 let b.1 0 v a.3 0 op + v b.0 0 v b.1 0", 4},
		{"let a 1 n 1 let b 1 fn x v0 op + v a 1 v0 v a 1 i app v b 1 i n 1", "let a.1 0 n 1 let b.0 0 fn x i op + v a.1 0 v a.1 0 app v b.0 0 n 1", 2},
		{"let a 1 n 1 let b 1 v a 1 v0 op + v a 1 i v b 1 i", "let a.0 0 n 1 let b.1 0 v a.0 0 op + v a.0 0 v b.1 0", 2},
		{"let a 2 n 1 let b 2 v a 2 v1 v0 op + v a 2 i b v b 2 b i", "let a.0 0 n 1 let b.1 0 v a.0 0 op + v a.0 0 v b.1 0", 2},
		{"let a 2 n 1 let b 1 v a 2 v0 p i v0 v b 1 b", "let a.1 0 n 1 let b.0 0 v a.1 0 v b.0 0", 2},
		// within what is not reached there are none
		{"let a 1 n 1 let b 1 v a 1 l v0 n 3", "n 3", 0},
		{"let a 1 n 1 let b 1 v a 1 l v0 v a 1 i", "let a.0 0 n 1 v a.0 0", 1},
		{"let a 1 n 1 let b 1 v a 1 l v0 let c 1 v b 1 v0 v a 1 b", "let a.0 0 n 1 v a.0 0", 1},
		// by several bindings
		{"let a 1 n 1 let b 1 v a 1 l v0 let c 1 v b 1 p v0 v0 v c 1 i", "let a.2 0 n 1 let b.1 0 v a.2 0 let c.0 0 v b.1 0 v c.0 0", 3},
		{"let a 1 n 1 let b 1 v a 1 l v0 let c 1 fn x i op + v a 1 v0 v b 1 v0 app v c 1 l i n 0", "let a.1 0 n 1 let a.3 0 n 1 let b.2 0 v a.3 0 let c.0 0 fn x i op + v a.1 0 v b.2 0 app v c.0 0 n 0", 4},
		// in the function of a fix
		{"let a 1 fn x v0 v x 0 fix f 1 f v0 v0 fn y v0 if t app v a 1 v0 v y 0 app v f 0 v y 0 app v f 1 b t", "let a.1 0 fn x b v x 0 fix f.0 0 f b b fn y b if t app v a.1 0 v y 0 app v f.0 0 v y 0 app v f.0 0 t", 2},
		{"fix f 1 f v0 v0 fn y v0 v y 0 fix g 1 f v0 i fn z v0 let w 0 app v f 1 v0 v z 0 n 3 app v g 1 l b nil b", "fix f.1 0 f l b l b fn y l b v y 0 fix g.0 0 f l b i fn z l b let w 0 app v f.1 0 v z 0 n 3 app v g.0 0 nil b", 2},
	})
}

func TestMonoBindingsWithinOthers(t *testing.T) {
	monoedAll(t, []monoCase{
		// where another holds
		{"let a 1 n 1 let b 1 n 2 op + v a 1 i v b 1 i", "let a.0 0 n 1 let b.1 0 n 2 op + v a.0 0 v b.1 0", 2},
		{"fix f 1 f v0 v0 fn x v0 v x 0 let b 1 n 2 app v f 1 i v b 1 i", "fix f.0 0 f i i fn x i v x 0 let b.1 0 n 2 app v f.0 0 v b.1 0", 2},
		{"let x 0 n 1 let b 1 n 2 op + v x 0 v b 1 i", "let x 0 n 1 let b.0 0 n 2 op + v x 0 v b.0 0", 1},
		// within the first part of another, which has no type variables
		{"let x 0 let b 1 n 2 v b 1 i v x 0", "let x 0 let b.0 0 n 2 v b.0 0 v x 0", 1},
		{"let x 0 let b 1 n 2 n 4 v x 0", "let x 0 n 4 v x 0", 0},
		{"fix f 0 f i i fn x i let b 1 n 2 op + v x 0 v b 1 i app v f 0 n 3", "fix f 0 f i i fn x i let b.0 0 n 2 op + v x 0 v b.0 0 app v f 0 n 3", 1},
		{"fix f 0 f i i fn x i fix g 1 f v0 v0 fn y v0 v y 0 app v g 1 i v x 0 app v f 0 n 3", "fix f 0 f i i fn x i fix g.0 0 f i i fn y i v y 0 app v g.0 0 v x 0 app v f 0 n 3", 1},
		// within both
		{"let x 0 let a 1 n 2 v a 1 i let b 1 n 3 op + v x 0 v b 1 b", "let x 0 let a.0 0 n 2 v a.0 0 let b.1 0 n 3 op + v x 0 v b.1 0", 2},
		{"let a 1 n 1 let x 0 let b 1 v a 1 l v0 v b 1 i let c 1 v a 1 v0 op + v x 0 v c 1 b", "let a.1 0 n 1 let a.3 0 n 1 let x 0 let b.0 0 v a.1 0 v b.0 0 let c.2 0 v a.3 0 op + v x 0 v c.2 0", 4},
		{"fix f 0 f i i fn x i let b 1 n 2 op + v x 0 v b 1 i let b 1 n 5 app v f 0 v b 1 i", "fix f 0 f i i fn x i let b.0 0 n 2 op + v x 0 v b.0 0 let b.1 0 n 5 app v f 0 v b.1 0", 2},
		// anywhere else
		{"app fn x i let b 1 v x 0 v b 1 i n 2", "app fn x i let b.0 0 v x 0 v b.0 0 n 2", 1},
		{"app fn x i v x 0 let b 1 n 2 v b 1 i", "app fn x i v x 0 let b.0 0 n 2 v b.0 0", 1},
		{"op + let b 1 n 2 v b 1 i let b 1 n 3 v b 1 i", "op + let b.0 0 n 2 v b.0 0 let b.1 0 n 3 v b.1 0", 2},
		{"case h r cons let b 1 n 2 v b 1 i nil i let c 1 n 3 v c 1 i let d 1 v h 0 v d 1 i", "case h r cons let b.0 0 n 2 v b.0 0 nil i let c.1 0 n 3 v c.1 0 let d.2 0 v h 0 v d.2 0", 3},
		{"try e raise i let b 1 n 2 v b 1 i let c 1 v e 0 v c 1 i", "try e raise i let b.0 0 n 2 v b.0 0 let c.1 0 v e 0 v c.1 0", 2},
	})
}

// Names that hide a binding with type variables, in the parts in which they are bound and in no others.
func TestMonoNamesThatHide(t *testing.T) {
	of := func(text string) string { return "let f 1 fn x v0 v x 0 " + text }
	to := func(text string) string { return "let f.0 0 fn x i v x 0 " + text }
	monoedAll(t, []monoCase{
		{of("op + app v f 1 i n 1 app fn f i v f 0 n 2"), to("op + app v f.0 0 n 1 app fn f i v f 0 n 2"), 1},
		{of("app fn f i v f 0 app v f 1 i n 2"), to("app fn f i v f 0 app v f.0 0 n 2"), 1},
		{of("let f 0 app v f 1 i n 1 v f 0"), to("let f 0 app v f.0 0 n 1 v f 0"), 1},
		{of("let f 1 v f 1 v0 app v f 1 i n 1"), "let f.1 0 fn x i v x 0 let f.0 0 v f.1 0 app v f.0 0 n 1", 2},
		{of("let f 2 fn y v1 app v f 1 v1 v y 0 app v f 2 b i n 1"), "let f.1 0 fn x i v x 0 let f.0 0 fn y i app v f.1 0 v y 0 app v f.0 0 n 1", 2},
		{of("op + app v f 1 i n 1 fix f 0 f i i fn y i if t v y 0 app v f 0 v y 0 app v f 0 n 2"), to("op + app v f.0 0 n 1 fix f 0 f i i fn y i if t v y 0 app v f 0 v y 0 app v f 0 n 2"), 1},
		{of("op + app v f 1 i n 1 fix f 1 f v0 v0 fn y v0 if t v y 0 app v f 0 v y 0 app v f 1 i n 2"), to("op + app v f.0 0 n 1 fix f.1 0 f i i fn y i if t v y 0 app v f.1 0 v y 0 app v f.1 0 n 2"), 2},
		{of("fix f 1 f v0 v0 fn y v0 v y 0 app v f 1 i n 2"), "fix f.0 0 f i i fn y i v y 0 app v f.0 0 n 2", 1},
		{of("case f r cons app v f 1 i n 1 nil i app v f 1 i n 2 v f 0"), to("case f r cons app v f.0 0 n 1 nil i app v f.0 0 n 2 v f 0"), 1},
		{of("case h f cons app v f 1 i n 1 nil i cons app v f 1 i n 2 nil i v f 0"), to("case h f cons app v f.0 0 n 1 nil i cons app v f.0 0 n 2 nil i v f 0"), 1},
		{of("try f app v f 1 i n 1 v f 0"), to("try f app v f.0 0 n 1 v f 0"), 1},
		// behind what hid it, it is there again
		{of("op + let f 0 n 1 v f 0 app v f 1 i n 2"), to("op + let f 0 n 1 v f 0 app v f.0 0 n 2"), 1},
		{of("op + let f 1 n 1 v f 1 b app v f 1 i n 2"), "let f.1 0 fn x i v x 0 op + let f.0 0 n 1 v f.0 0 app v f.1 0 n 2", 2},
		{of("op + try f n 1 v f 0 op + case f r nil i n 0 v f 0 op + app fn f i v f 0 n 1 app v f 1 i n 2"), to("op + try f n 1 v f 0 op + case f r nil i n 0 v f 0 op + app fn f i v f 0 n 1 app v f.0 0 n 2"), 1},
		// its own argument hides it in its function
		{"fix f 1 f v0 v0 fn f v0 v f 0 app v f 1 i n 1", "fix f.0 0 f i i fn f i v f 0 app v f.0 0 n 1", 1},
		{"fix f 1 f v0 v0 fn x v0 let f 0 v x 0 v f 0 app v f 1 i n 1", "fix f.0 0 f i i fn x i let f 0 v x 0 v f 0 app v f.0 0 n 1", 1},
		{"let f 1 fn f v0 v f 0 app v f 1 i n 1", "let f.0 0 fn f i v f 0 app v f.0 0 n 1", 1},
		{"let f 1 fn x v0 let f 0 fn y v0 v y 0 app v f 0 v x 0 app v f 1 i n 1", "let f.0 0 fn x i let f 0 fn y i v y 0 app v f 0 v x 0 app v f.0 0 n 1", 1},
	})
}

// The other way round: a binding with type variables hides a name, where it holds, and a fix in its function too.
func TestMonoHidesNames(t *testing.T) {
	for _, around := range []string{
		"let f 0 n 1 #", "app fn f i # n 1", "case f r cons n 1 nil i n 0 #", "case h f cons n 1 nil i n 0 case f r cons v h 0 v f 0 n 0 #", "try f raise i n 1 #", "let f 0 n 5 let f 0 n 1 #",
	} {
		for _, inner := range [][2]string{
			{"let f 1 v f 0 v f 1 b", "let f.0 0 v f 0 v f.0 0"},
			{"op + v f 0 let f 1 v f 0 v f 1 b", "op + v f 0 let f.0 0 v f 0 v f.0 0"},
			{"op + let f 1 v f 0 v f 1 b v f 0", "op + let f.0 0 v f 0 v f.0 0 v f 0"},
			{"let f 1 v f 0 op + v f 1 b v f 1 i", "let f.0 0 v f 0 let f.1 0 v f 0 op + v f.0 0 v f.1 0"},
			{"let f 1 fn x v0 v f 0 op + app v f 1 b t app v f 1 i n 2", "let f.0 0 fn x b v f 0 let f.1 0 fn x i v f 0 op + app v f.0 0 t app v f.1 0 n 2"},
			{"let g 0 v f 0 fix f 1 f v0 i fn x v0 if t v g 0 app v f 0 v x 0 app v f 1 b t", "let g 0 v f 0 fix f.0 0 f b i fn x b if t v g 0 app v f.0 0 v x 0 app v f.0 0 t"},
			{"let f 1 n 3 v f 1 b", "let f.0 0 n 3 v f.0 0"},
			// and is hidden itself
			{"let f 1 n 3 let f 0 v f 1 b v f 0", "let f.0 0 n 3 let f 0 v f.0 0 v f 0"},
		} {
			monoed(t, filled(around, inner[0]), filled(around, inner[1]), strings.Count(inner[1], "let f.")+strings.Count(inner[1], "fix f."))
		}
	}
	monoed(t, "fix f 0 f i i fn x i let f 1 v f 0 if t v x 0 app v f 1 b v x 0 app v f 0 n 3", "fix f 0 f i i fn x i let f.0 0 v f 0 if t v x 0 app v f.0 0 v x 0 app v f 0 n 3", 1)
	monoed(t, "let x 0 n 1 let a 1 fn y v0 v x 0 let x 0 n 2 op + v x 0 app v a 1 i n 3", "let x 0 n 1 let a.0 0 fn y i v x 0 let x 0 n 2 op + v x 0 app v a.0 0 n 3", 1)
}

func TestMonoOrderOfSeveralBindings(t *testing.T) {
	monoedAll(t, []monoCase{
		// used in turn, the outermost one first, and the other way round
		{"let a 1 n 1 let b 1 n 2 op + op + v a 1 i v b 1 i op + v a 1 b v b 1 b", "let a.0 0 n 1 let a.2 0 n 1 let b.1 0 n 2 let b.3 0 n 2 op + op + v a.0 0 v b.1 0 op + v a.2 0 v b.3 0", 4},
		{"let a 1 n 1 let b 1 n 2 op + op + v b 1 i v a 1 i op + v b 1 b v a 1 b", "let a.1 0 n 1 let a.3 0 n 1 let b.0 0 n 2 let b.2 0 n 2 op + op + v b.0 0 v a.1 0 op + v b.2 0 v a.3 0", 4},
		{"let a 1 n 1 let b 1 n 2 let c 1 n 3 op + v c 1 i op + v a 1 i op + v b 1 i op + v a 1 b op + v c 1 b op + v a 1 i v b 1 b",
			"let a.1 0 n 1 let a.3 0 n 1 let b.2 0 n 2 let b.5 0 n 2 let c.0 0 n 3 let c.4 0 n 3 op + v c.0 0 op + v a.1 0 op + v b.2 0 op + v a.3 0 op + v c.4 0 op + v a.1 0 v b.5 0", 6},
		// an instance that was met keeps its number
		{"let a 1 n 1 op + op + v a 1 b v a 1 i op + v a 1 b op + v a 1 l i v a 1 i", "let a.0 0 n 1 let a.1 0 n 1 let a.2 0 n 1 op + op + v a.0 0 v a.1 0 op + v a.0 0 op + v a.2 0 v a.1 0", 3},
		// one beside the other
		{"op + let a 1 n 1 op + v a 1 i v a 1 b let a 1 n 2 op + v a 1 b v a 1 i", "op + let a.0 0 n 1 let a.1 0 n 1 op + v a.0 0 v a.1 0 let a.2 0 n 2 let a.3 0 n 2 op + v a.2 0 v a.3 0", 4},
		// alike, with fix among them
		{"let a 1 fn x v0 v x 0 fix b 1 f v0 v0 fn y v0 v y 0 op + app v b 1 i app v a 1 i n 1 if app v a 1 b app v b 1 b t n 1 n 2",
			"let a.1 0 fn x i v x 0 let a.2 0 fn x b v x 0 fix b.0 0 f i i fn y i v y 0 fix b.3 0 f b b fn y b v y 0 op + app v b.0 0 app v a.1 0 n 1 if app v a.2 0 app v b.3 0 t n 1 n 2", 4},
	})
}

// Of an inner binding first where it holds, then its copies, the first one first; then what is behind it.
func TestMonoOrderOfCopies(t *testing.T) {
	monoedAll(t, []monoCase{
		// what is used where b holds comes ahead of what its copies use, though that stands ahead of it
		{"let a 1 n 1 let b 1 v a 1 l v0 op + v b 1 i v a 1 b", "let a.1 0 n 1 let a.2 0 n 1 let b.0 0 v a.2 0 op + v b.0 0 v a.1 0", 3},
		{"let a 1 n 1 let b 1 v a 1 l v0 op + v a 1 b v b 1 i", "let a.0 0 n 1 let a.2 0 n 1 let b.1 0 v a.2 0 op + v a.0 0 v b.1 0", 3},
		{"let a 1 n 1 let b 1 v a 1 b op + v b 1 i v b 1 b", "let a.2 0 n 1 let b.0 0 v a.2 0 let b.1 0 v a.2 0 op + v b.0 0 v b.1 0", 3},
		// the first copy first, and each from the front
		{"let a 1 n 1 let b 1 fn x v0 op + v a 1 l v0 v a 1 p v0 i op + app v b 1 b t app v b 1 i n 1",
			"let a.2 0 n 1 let a.3 0 n 1 let a.4 0 n 1 let a.5 0 n 1 let b.0 0 fn x b op + v a.2 0 v a.3 0 let b.1 0 fn x i op + v a.4 0 v a.5 0 op + app v b.0 0 t app v b.1 0 n 1", 6},
		// ahead of what stands behind the inner binding as a whole
		{"let a 1 n 1 op + let b 1 v a 1 l v0 v b 1 i v a 1 b", "let a.1 0 n 1 let a.2 0 n 1 op + let b.0 0 v a.1 0 v b.0 0 v a.2 0", 3},
		{"let a 1 n 1 let x 0 let b 1 v a 1 l v0 v b 1 i op + v x 0 v a 1 b", "let a.1 0 n 1 let a.2 0 n 1 let x 0 let b.0 0 v a.1 0 v b.0 0 op + v x 0 v a.2 0", 3},
		{"let a 1 n 1 op + v a 1 b let b 1 v a 1 l v0 op + v b 1 i v a 1 i", "let a.0 0 n 1 let a.2 0 n 1 let a.3 0 n 1 op + v a.0 0 let b.1 0 v a.3 0 op + v b.1 0 v a.2 0", 4},
		// the innermost one's copies ahead of those of the one around it
		{"let a 1 n 1 let b 1 v a 1 l v0 let c 1 v a 1 p v0 v0 op + v b 1 i v c 1 i", "let a.2 0 n 1 let a.3 0 n 1 let b.0 0 v a.3 0 let c.1 0 v a.2 0 op + v b.0 0 v c.1 0", 4},
		{"let a 1 n 1 let b 1 v a 1 l v0 let c 1 fn x i op + v a 1 v0 v b 1 v0 op + app v c 1 b n 0 v b 1 i",
			"let a.2 0 n 1 let a.4 0 n 1 let a.5 0 n 1 let b.1 0 v a.4 0 let b.3 0 v a.5 0 let c.0 0 fn x i op + v a.2 0 v b.3 0 op + app v c.0 0 n 0 v b.1 0", 6},
		// two inner ones beside each other, each with its copies
		{"let a 1 n 1 op + let b 1 v a 1 l v0 op + v b 1 i v b 1 b let c 1 v a 1 v0 op + v c 1 l b v c 1 i",
			"let a.2 0 n 1 let a.3 0 n 1 let a.6 0 n 1 op + let b.0 0 v a.2 0 let b.1 0 v a.3 0 op + v b.0 0 v b.1 0 let c.4 0 v a.3 0 let c.5 0 v a.6 0 op + v c.4 0 v c.5 0", 7},
		// of a fix alike
		{"let a 1 n 1 fix g 1 f v0 i fn x v0 if t v a 1 l v0 app v g 0 v x 0 op + op + app v g 1 b t app v g 1 i n 1 v a 1 i",
			"let a.2 0 n 1 let a.3 0 n 1 let a.4 0 n 1 fix g.0 0 f b i fn x b if t v a.3 0 app v g.0 0 v x 0 fix g.1 0 f i i fn x i if t v a.4 0 app v g.1 0 v x 0 op + op + app v g.0 0 t app v g.1 0 n 1 v a.2 0", 5},
	})
}

// From the front means part by part, in each kind of term.
func TestMonoOrderWithinEachKind(t *testing.T) {
	for _, text := range []string{
		"op + # #", "op - # #", "if op < # # # #", "case h r cons # nil i # op + v h 0 #", "cons # cons # nil i", "fst pair # #", "fst snd pair # pair # #", "app fn x i # #", "app app fn x i fn y i # # #", "let x 0 # #",
		"fix f 0 f i i fn x i # #", "raise i #", "raise i op + # #", "try e # op + v e 0 #", "app if t fn x i # fn y i # #", "let x 0 pair # # op + fst v x 0 #",
	} {
		var uses, are []string
		copies := ""
		for k, ty := range rowTys(strings.Count(text, "#")) {
			name := "c." + strconv.Itoa(k)
			uses = append(uses, "v c 1 "+ty)
			are = append(are, "v "+name+" 0")
			copies += "let " + name + " 0 n 1 "
		}
		monoed(t, "let c 1 n 1 "+filled(text, uses...), copies+filled(text, are...), len(uses))
	}
}

// There may be as many copies as MaxCopies, of all bindings together.
func TestMonoMaxCopies(t *testing.T) {
	inCopies := func(more string) string {
		group := "let a 1 n 1 let b 1 v a 1 p v0 v0 "
		return sumOf([]string{group + usedAt("b", 5), group + usedAt("b", 5), group + "op + " + more + " " + usedAt("b", 5)})
	}
	for text, copies := range map[string]int{
		groups("c", 10, 10, 9): 29, groups("c", 10, 10, 10): 30, groups("c", 10, 10, 11): 31, groups("c", 16, 16): 32, groups("c", 6, 6, 6, 6, 6): 30, groups("c", 6, 6, 6, 6, 7): 31,
		groups("c", 15, 15): 30, groups("c", 15, 14): 29, groups("c", 15, 16): 31,
		// copies that only copies use count, and instances that were met before do not
		inCopies("n 1"): 30, inCopies("v a 1 p i i"): 30, inCopies("v a 1 i"): 31, inCopies("v b 1 i"): 30, inCopies("let c 1 n 1 n 2"): 30, inCopies("let c 1 n 1 v c 1 i"): 31,
	} {
		if copies > impl.MaxCopies {
			notMonoed(t, text, impl.MonoMany)
			continue
		}
		term := parsedTerm(t, text)
		if code, own := asPlainMono(t, term); code != impl.MonoGood || own != copies {
			t.Error("the test's own", text, code, own)
		}
		keptAll(t, term)
	}
}

// Each copy uses six others of the binding around it, and each of these, too.
func TestMonoVeryManyCopies(t *testing.T) {
	text := "let a 2 fn x i v x 0 "
	for _, level := range []string{"ab", "bc", "cd", "de", "ef"} {
		var uses []string
		for _, ts := range []string{"l v0 v1", "v0 l v1", "p v0 v1 v0", "v1 p v1 v0", "f v0 i v1", "i f v0 v1"} {
			uses = append(uses, "app v "+level[:1]+" 2 "+ts+" v x 0")
		}
		text += "let " + level[1:] + " 2 fn x i " + sumOf(uses) + " "
	}
	monoedTerm(t, parsedTerm(t, text+"app v f 2 i b n 1"), impl.Term{}, impl.MonoMany, -1)
	monoed(t, text+"app v a 2 i b n 1", "let a.0 0 fn x i v x 0 app v a.0 0 n 1", 1)
	monoed(t, text+"n 1", "n 1", 0)
}

// A program may come to just 150 nodes by its copies.
func TestMonoNodes(t *testing.T) {
	for more := -3; more <= 3; more++ {
		for _, binding := range []string{"let f 1 fn x v0 #", "fix f 1 f v0 i fn x v0 #"} {
			fn := filled(binding, plainTermText(sumOfNodes(60)))
			text := fn + " op + " + plainTermText(sumOfNodes(18+more)) + " op + app v f 1 i n 1 app v f 1 b t"
			if more > 0 {
				notMonoed(t, text, impl.MonoBig)
				continue
			}
			term := parsedTerm(t, text)
			asPlainMono(t, term)
			keptAll(t, term)
			if got, _ := impl.Mono(term); plainNodes(got) != 150+more || plainNodes(term) > 100 {
				t.Error("nodes", plainNodes(got), plainNodes(term))
			}
		}
	}
}

// It may come to just 24 deep: copies stand within each other.
func TestMonoDepth(t *testing.T) {
	for copies := 2; copies <= 6; copies++ {
		for depth := 22; depth <= 25; depth++ {
			deep := strings.Repeat("raise i ", depth-copies-2) + "n 1"
			for _, text := range []string{
				"let c 1 n 1 op + " + usedAt("c", copies) + " " + deep,
				"let c 1 fn x i " + deep + " " + usedAs("app v c 1 # n 1", copies),
				"fix c 1 f i i fn x i " + deep + " " + usedAs("app v c 1 # n 1", copies),
			} {
				if depth > 24 {
					notMonoed(t, text, impl.MonoBig)
					continue
				}
				term := parsedTerm(t, text)
				asPlainMono(t, term)
				keptAll(t, term)
				if got, _ := impl.Mono(term); plainDepth(got) != depth {
					t.Error("depth", text, plainDepth(got), depth)
				}
			}
		}
	}
}

// A copy's name has at most 8 bytes, as any name.
func TestMonoNames(t *testing.T) {
	for size := 1; size <= 8; size++ {
		name := "abcdefgh"[:size]
		for ahead, most := range map[int]int{0: 6, 1: 6, 9: 6, 10: 5, 11: 5, 29: 5} {
			text := "let " + name + " 1 n 1 v " + name + " 1 i"
			if ahead > 0 {
				third := ahead / 3
				text = "op + " + groups("c", slices.DeleteFunc([]int{third, third, ahead - 2*third}, func(n int) bool { return n == 0 })...) + " " + text
			}
			if size > most {
				notMonoed(t, text, impl.MonoBig)
				continue
			}
			term := parsedTerm(t, text)
			if code, copies := asPlainMono(t, term); code != impl.MonoGood || copies != ahead+1 {
				t.Error("the test's own", text, code, copies)
			}
			keptAll(t, term)
			got, _ := impl.Mono(term)
			if tail := "v " + name + "." + strconv.Itoa(ahead) + " 0"; !strings.HasSuffix(impl.TermText(got), tail) {
				t.Error(impl.TermText(got), tail)
			}
		}
		// nothing is copied of it: it may be as long as it likes
		monoed(t, "let "+name+" 1 n 1 n 2", "n 2", 0)
		monoed(t, "fix "+name+" 1 f v0 i fn "+name+" v0 n 1 n 2", "n 2", 0)
		monoed(t, "let "+name+" 0 n 1 let c 1 fn y i v "+name+" 0 app v c 1 i n 2", "let "+name+" 0 n 1 let c.0 0 fn y i v "+name+" 0 app v c.0 0 n 2", 1)
		monoed(t, "let c 1 fn "+name+" v0 v "+name+" 0 app v c 1 i n 2", "let c.0 0 fn "+name+" i v "+name+" 0 app v c.0 0 n 2", 1)
	}
	// the last of many names, and one that only a copy has
	notMonoed(t, "let sevenby 1 n 1 op + n 1 v sevenby 1 i", impl.MonoBig)
	notMonoed(t, "let sevenby 1 n 1 let b 1 v sevenby 1 v0 v b 1 i", impl.MonoBig)
	notMonoed(t, "fix sevenby 1 f v0 v0 fn x v0 v x 0 app v sevenby 1 i n 1", impl.MonoBig)
	notMonoed(t, "op + "+groups("sixbyt", 5)+" "+groups("sixbyt", 6), impl.MonoBig)
	term := parsedTerm(t, "op + "+groups("sixbyt", 5)+" "+groups("sixbyt", 5))
	asPlainMono(t, term)
	keptAll(t, term)
}

// Types that come out too big make it too big, wherever they stand in a term; a row of these is no instance.
func TestMonoBigTypes(t *testing.T) {
	for _, c := range []struct {
		text string
		// with that many lists in its hole it has a type behind Mono, and with that many it is TermOk
		typed, right int
	}{
		{"let f 1 fn x i let y 0 raise l l v0 n 1 v x 0 app v f 1 #i n 1", 3, 3},
		{"fix f 1 f i i fn x i let y 0 raise l l v0 n 1 v x 0 app v f 1 #i n 1", 3, 3},
		{"let f 1 fn x i fix g 0 f v0 i fn z v0 n 1 v x 0 app v f 1 #i n 1", 4, 4},
		{"let a 1 n 1 let b 1 v a 1 l v0 v b 1 #i", 4, 4},
		{"let a 2 n 1 let b 1 v a 2 i l v0 v b 1 #i", 4, 4},
		{"let a 2 n 1 let b 2 v a 2 l v1 v0 v b 2 b #i", 4, 4},
		{"let a 1 n 1 let b 1 v a 1 l v0 let c 1 v b 1 l v0 v c 1 #i", 3, 3},
		// The chapter asks for TermOk alone: the type of a term, which stands nowhere, may still come out too big.
		{"let f 1 fn x i let y 0 fn z i raise l l v0 n 1 v x 0 app v f 1 #i n 1", 2, 3},
		{"let f 1 fn x i let y 0 nil l v0 v x 0 app v f 1 #i n 1", 3, 4},
		{"let f 1 fn x i let y 0 fn z l v0 n 1 v x 0 app v f 1 #i n 1", 3, 4},
	} {
		for n := range 6 {
			text := filled(c.text, strings.Repeat("l ", n))
			if n > c.right {
				notMonoed(t, text, impl.MonoBig)
				continue
			}
			term := parsedTerm(t, text)
			if code, _ := asPlainMono(t, term); code != impl.MonoGood {
				t.Error("the test's own", text, code)
			}
			endKept(t, term)
			if typeKept(t, term) != (n <= c.typed) {
				t.Error("type", text)
			}
		}
	}
	for nodes, code := range map[int]int{28: impl.MonoGood, 29: impl.MonoGood, 30: impl.MonoBig, 31: impl.MonoBig} {
		for _, text := range []string{"let a 1 n 1 let b 1 v a 1 p v0 v0 v b 1 #", "let f 1 fn x i let y 0 raise p v0 v0 n 1 v x 0 app v f 1 # n 1"} {
			if got, _ := asPlainMono(t, parsedTerm(t, filled(text, plainText(smallTree(nodes))))); got != code {
				t.Error(text, nodes, got)
			}
		}
	}
}

// notPrograms are programs but for one thing, whatever program is put in their hole.
func notPrograms() []string {
	return []string{
		// another type
		"pair # n 2", "fn y i #", "nil b", "let y 0 # nil l i", "cons fn y i # nil f i i", "let y 0 # pair n 1 t", "cons t let y 0 # nil b",
		// no type
		"op + # t", "if n 1 # n 2", "app # n 1", "fst #", "let y 0 # v y 1 i", "let y 1 op + n 1 # n 2", "let y 1 fn z v0 let w 1 n 1 # n 2", "raise v0 #",
		// free names
		"op + # v nobody 0", "let y 0 v y 0 #", "try e v e 0 #", "pair # v nobody 0",
		// names that are not plain
		"let y.1 0 n 1 #", "let y. 1 n 1 #", "fix y.1 0 f i i fn z i n 1 #", "let y 0 fn z.1 i n 1 #", "case h.1 r nil i # n 1", "case h r.1 nil i # n 1", "try e.0 # n 1", "let y 0 n 1 let y.0 0 # v y.0 0",
	}
}

func TestMonoForm(t *testing.T) {
	for _, text := range notPrograms() {
		for _, inner := range []string{"n 1", "let id 1 fn x v0 v x 0 app v id 1 i n 1", "let longname 1 n 1 v longname 1 i", groups("c", 16, 17)} {
			notMonoed(t, filled(text, inner), impl.MonoForm)
		}
	}
	for why, term := range wrongTerms() {
		for _, whole := range []impl.Term{term, tmLet("x", 1, tmNum(1), term), tmLet("x", 1, term, tmVar("x", tyInt)), tmOp(1, tmNum(1), term)} {
			if got, code := impl.Mono(whole); code != impl.MonoForm || !zeroTerm(got) {
				t.Error(why, code, got)
			}
			if copies := impl.Copies(whole); copies != -1 {
				t.Error(why, copies)
			}
		}
	}
	for _, term := range typedTerms(1500) {
		if !impl.Program(term) {
			monoedTerm(t, term, impl.Term{}, impl.MonoForm, -1)
		}
	}
	r := rand.New(rand.NewSource(5))
	for _, term := range polyPrograms(1500) {
		if wrong := spoilt(r, term); !impl.Program(wrong) {
			if got, code := impl.Mono(wrong); code != impl.MonoForm || !zeroTerm(got) || impl.Copies(wrong) != -1 {
				t.Error(wrong, code)
			}
		}
	}
}

// Where two reasons hold, it is the one that is named first.
func TestMonoSeveralReasons(t *testing.T) {
	// MonoMany by itself, with too long names, too many nodes, too deep, with too big types
	for _, text := range []string{
		groups("c", 10, 10, 11), groups("longname", 10, 10, 11), groups("sevenby", 31), groups("c", 31), "op + " + groups("longname", 1) + " " + groups("c", 15, 15), "op + " + groups("c", 15, 15) + " " + groups("longname", 1),
		"let f 1 fn x i op + v x 0 op + v x 0 n 1 " + usedAs("app v f 1 # n 1", 31),
		"op + let a 1 n 1 let b 1 v a 1 l v0 v b 1 l l l l l i " + groups("c", 15, 15),
		"op + " + groups("c", 15, 15) + " let a 1 n 1 let b 1 v a 1 l v0 v b 1 l l l l l i",
		"op + let f 1 fn x i let y 0 raise l v0 n 1 v x 0 app v f 1 l l l l l i n 1 " + groups("c", 15, 15),
	} {
		notMonoed(t, text, impl.MonoMany)
	}
	// with one copy less they are too big
	for _, text := range []string{
		groups("longname", 10, 10, 10), groups("sevenby", 20), groups("c", 30), groups("c", 24), "op + " + groups("longname", 1) + " " + groups("c", 15, 14), "op + " + groups("c", 15, 14) + " " + groups("longname", 1),
		"let f 1 fn x i op + v x 0 op + v x 0 n 1 " + usedAs("app v f 1 # n 1", 20),
		// a row that is too big is no instance, so it does not count
		"op + let a 1 n 1 let b 1 v a 1 l v0 v b 1 l l l l l i " + groups("c", 15, 14),
		"op + " + groups("c", 15, 14) + " let a 1 n 1 let b 1 v a 1 l v0 v b 1 l l l l l i",
		"op + let f 1 fn x i let y 0 raise l v0 n 1 v x 0 app v f 1 l l l l l i n 1 " + groups("c", 15, 14),
	} {
		notMonoed(t, text, impl.MonoBig)
	}
	// and where it is no program, that counts
	for _, text := range []string{groups("c", 10, 10, 11), groups("longname", 1), groups("longname", 10, 10, 11), groups("c", 30)} {
		notMonoed(t, "pair n 1 "+text, impl.MonoForm)
		notMonoed(t, "op + t "+text, impl.MonoForm)
		notMonoed(t, "op + v nobody 0 "+text, impl.MonoForm)
		notMonoed(t, "let x.1 0 n 1 "+text, impl.MonoForm)
	}
}

func TestIsMonoOfEachKind(t *testing.T) {
	for _, c := range kindCases() {
		if got := impl.IsMono(c.term); got != plainIsMono(c.term) {
			t.Error(c.text, got)
		}
	}
	for text, want := range map[string]bool{
		"n 1": true, "t": true, "u": true, "v x 0": true, "v x 1 i": false, "v x 2 i b": false, "v x 1 v0": false, "fn x i v x 0": true, "fn x v0 v x 0": false, "fn x l p i v1 v x 0": false,
		"app v x 0 v y 0": true, "let x 0 n 1 v x 0": true, "let x 1 n 1 n 2": false, "let x 2 n 1 n 2": false, "let x.0 0 n 1 v x.0 0": true,
		"fix f 0 f i i fn x i v x 0 v f 0": true, "fix f 1 f i i fn x i v x 0 n 1": false, "fix f 2 f i i fn x i v x 0 n 1": false, "fix f 0 f i v0 fn x i n 1 n 1": false, "fix f 0 f v1 i fn x i n 1 n 1": false, "fix f 0 f i i fn x v0 n 1 n 1": false,
		"if t n 1 n 2": true, "pair n 1 t": true, "fst n 1": true, "snd t": true, "nil i": true, "nil v0": false, "nil v1": false, "nil l l l l v0": false, "cons n 1 n 2": true, "case h r nil i n 1 v h 0": true,
		"op + t u": true, "raise i n 1": true, "raise v0 n 1": false, "raise f i v1 n 1": false, "try e n 1 v e 0": true,
	} {
		term := parsedTerm(t, text)
		if impl.IsMono(term) != want || plainIsMono(term) != want {
			t.Error(text, want)
		}
	}
}

func TestIsMonoLooksEverywhere(t *testing.T) {
	leaves := map[string]bool{
		"n 1": true, "nil l i": true, "v x 0": true, "let x 0 n 1 v x 0": true, "fn x i v x 0": true,
		"let x 1 n 1 n 2": false, "fix f 2 f i i fn x i n 1 n 2": false, "v x 1 i": false, "nil v0": false, "raise v1 n 1": false, "fn x v0 n 1": false, "fix f 0 v0 fn x i n 1 n 2": false,
	}
	for how, wrap := range wraps() {
		for text, want := range leaves {
			for _, times := range []int{0, 1, 2, 5, 20} {
				if whole := wrapped(wrap, times, parsedTerm(t, text)); impl.TermOk(whole) && impl.IsMono(whole) != want {
					t.Error(how, times, text, !want)
				}
			}
		}
	}
	for text, want := range leaves {
		if whole := tmFix("f", 0, tyInt, tmFn("x", tyInt, parsedTerm(t, text)), tmNum(1)); impl.IsMono(whole) != want {
			t.Error("in a fix's function", text)
		}
	}
}

func TestIsMonoOfAllTerms(t *testing.T) {
	met := map[bool]int{}
	for _, term := range slices.Concat(anyTerms(3000), typedTerms(2000), polyPrograms(500)) {
		want := plainIsMono(term)
		met[want]++
		if impl.IsMono(term) != want {
			t.Error(plainTermText(term), !want)
		}
	}
	if met[true] < 500 || met[false] < 1000 {
		t.Error("too few", met)
	}
	for why, term := range wrongTerms() {
		if impl.IsMono(term) {
			t.Error(why)
		}
	}
}

// P5: over many programs, against the test's own, and by what follows.
func TestMonoOfProgramsByChance(t *testing.T) {
	codes, copies, ends, typed := map[int]int{}, map[int]int{}, map[int]int{}, map[bool]int{}
	for _, term := range polyPrograms(5000) {
		code, made := asPlainMono(t, term)
		codes[code]++
		if code != impl.MonoGood {
			continue
		}
		copies[min(made, 12)]++
		typed[typeKept(t, term)]++
		ends[endKept(t, term).End]++
		mono, _ := impl.Mono(term)
		if there := copiesIn(mono); there != made {
			t.Error("copies that are there", there, made, plainTermText(term))
		}
	}
	if codes[impl.MonoGood] < 3000 || codes[impl.MonoMany] < 15 || codes[impl.MonoBig] < 500 || copies[0] < 100 || copies[3] < 200 || copies[12] < 50 {
		t.Error("too few", codes, copies)
	}
	// The chapter asks for TermOk alone, so very few have no type any more.
	if typed[false] > typed[true]/100 {
		t.Error("too many without a type", typed)
	}
	if ends[impl.EndValue] < 2000 || ends[impl.EndRaise] < 200 || ends[impl.EndFuel] < 50 {
		t.Error("too few of an end", ends)
	}
}

// copiesIn counts the bindings whose names have a point.
func copiesIn(t impl.Term) int {
	copies := 0
	if t.K != impl.TmVar && strings.Contains(t.S, ".") {
		copies = 1
	}
	for _, a := range t.A {
		copies += copiesIn(a)
	}
	return copies
}

// What comes is not plain where there are copies, so it is no program; else it comes again as it is.
func TestMonoAgain(t *testing.T) {
	for _, term := range polyPrograms(500) {
		got, code := impl.Mono(term)
		if code != impl.MonoGood {
			continue
		}
		if impl.Copies(term) > 0 {
			monoedTerm(t, got, impl.Term{}, impl.MonoForm, -1)
		} else {
			monoedTerm(t, got, got, impl.MonoGood, 0)
		}
	}
}

// monoTerms are terms of each code.
func monoTerms(t *testing.T) []impl.Term {
	all := append(polyPrograms(300), anyTerms(100)...)
	for _, text := range []string{groups("c", 10, 10, 11), groups("longname", 2), groups("c", 15, 15), "pair n 1 n 2", "v x 0"} {
		all = append(all, parsedTerm(t, text))
	}
	for _, c := range kindCases() {
		all = append(all, c.term)
	}
	return all
}

func TestMonoArgumentsStay(t *testing.T) {
	all := monoTerms(t)
	for _, term := range wrongFields() {
		all = append(all, term)
	}
	for _, term := range all {
		roomy := roomyTerm(term)
		kept := fullTerm(roomy)
		impl.Mono(roomy)
		impl.IsMono(roomy)
		impl.Copies(roomy)
		if !reflect.DeepEqual(fullTerm(roomy), kept) {
			t.Fatal("an argument was written to", term)
		}
	}
}

// What lies behind a list's length is not there.
func TestMonoSpareRoomIsNotRead(t *testing.T) {
	for _, term := range monoTerms(t) {
		want, code := impl.Mono(term)
		monoedTerm(t, roomyTerm(term), want, code, impl.Copies(term))
		if impl.IsMono(roomyTerm(term)) != impl.IsMono(term) {
			t.Error(plainTermText(term))
		}
	}
}

func TestMonoAnswersAreNewMemory(t *testing.T) {
	for _, term := range monoTerms(t) {
		roomy := roomyTerm(term)
		first, _ := impl.Mono(roomy)
		second, _ := impl.Mono(roomy)
		ownPlaces(t, plainTermText(term), append(placesOf(first), placesOf(second)...), placesOf(roomy))
	}
}

// Nothing is kept from one call to another: the numbers begin anew.
func TestMonoKeepsNothing(t *testing.T) {
	all := monoTerms(t)
	var texts []string
	for _, term := range all {
		got, _ := impl.Mono(term)
		texts = append(texts, impl.TermText(got))
	}
	for i, term := range slices.Backward(all) {
		impl.Copies(all[len(all)-1-i])
		if got, _ := impl.Mono(term); impl.TermText(got) != texts[i] {
			t.Error(plainTermText(term), impl.TermText(got), texts[i])
		}
	}
}
