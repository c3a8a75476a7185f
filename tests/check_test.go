package tests

import (
	"math/rand"
	"reflect"
	"strconv"
	"strings"
	"testing"

	"loop.example/g00187/impl"
)

func TestCheckConstants(t *testing.T) {
	got := []int{impl.CheckGood, impl.CheckForm, impl.CheckName, impl.CheckType, impl.CheckPoly}
	if want := []int{0, 1, 2, 3, 4}; !reflect.DeepEqual(got, want) {
		t.Error(got, want)
	}
}

func TestTypeOfEachKind(t *testing.T) {
	kinds := map[int]bool{}
	for _, c := range [][2]string{
		{"n 0", "i"}, {"n -5", "i"}, {"t", "b"}, {"u", "b"},
		{"fn x i v x 0", "f i i"}, {"fn x l b n 1", "f l b i"}, {"fn x i fn y b v x 0", "f i f b i"}, {"fn x f i b v x 0", "f f i b f i b"},
		{"app fn x i t n 1", "b"}, {"app fn x b v x 0 u", "b"}, {"fn f f i l b app v f 0 n 3", "f f i l b l b"}, {"app fn x i fn y b v x 0 n 1", "f b i"},
		{"let x 0 n 1 v x 0", "i"}, {"let x 0 t n 1", "i"}, {"let x 0 n 1 t", "b"}, {"let x 0 pair n 1 t v x 0", "p i b"}, {"let x 0 nil i cons n 1 v x 0", "l i"},
		{"fix f 0 f i i fn x i v x 0 v f 0", "f i i"}, {"fix f 0 f i b fn x i app v f 0 v x 0 app v f 0 n 1", "b"}, {"fix f 0 f i i fn x i v x 0 t", "b"},
		{"if t n 1 n 2", "i"}, {"if u t u", "b"}, {"if op < n 1 n 2 nil b nil b", "l b"},
		{"pair n 1 t", "p i b"}, {"pair t pair n 1 n 2", "p b p i i"}, {"pair pair t n 1 u", "p p b i b"},
		{"fst pair n 1 t", "i"}, {"snd pair n 1 t", "b"}, {"fst pair pair t n 1 n 2", "p b i"}, {"snd snd pair n 1 pair n 2 nil b", "l b"},
		{"nil i", "l i"}, {"nil f i b", "l f i b"}, {"nil l l i", "l l l i"},
		{"cons n 1 nil i", "l i"}, {"cons t cons u nil b", "l b"}, {"cons nil i nil l i", "l l i"}, {"cons pair n 1 t nil p i b", "l p i b"},
		{"case h r nil i n 0 v h 0", "i"}, {"case h r nil b nil b v r 0", "l b"}, {"case h r nil p i b t snd v h 0", "b"}, {"case h r cons t nil b n 1 n 2", "i"},
		{"case h r nil i nil i cons v h 0 v r 0", "l i"}, {"case h r nil l i nil i v h 0", "l i"},
		{"op + n 1 n 2", "i"}, {"op - n 1 n 2", "i"}, {"op * n 1 n 2", "i"}, {"op < n 1 n 2", "b"}, {"op = n 1 n 2", "b"}, {"op * op + n 1 n 2 op - n 3 n 4", "i"},
		{"raise i n 1", "i"}, {"raise b n 1", "b"}, {"raise l i n 2", "l i"}, {"raise f i b op + n 1 n 2", "f i b"}, {"raise b raise i n 1", "b"},
		{"try x n 1 v x 0", "i"}, {"try x raise b n 2 op < v x 0 n 3", "b"}, {"try x nil i cons v x 0 nil i", "l i"}, {"try x t u", "b"},
		{"fn x p i l b pair snd v x 0 fst v x 0", "f p i l b p l b i"},
		{"fn f f i f b i fn x b app app v f 0 n 1 v x 0", "f f i f b i f b i"},
		{"let k 0 fn x i fn y b v x 0 app app v k 0 try e raise i n 4 op * v e 0 v e 0 case h r cons n 1 nil i t op = v h 0 n 2", "i"},
		{"fix sum 0 f l i i fn l l i case h r v l 0 n 0 op + v h 0 app v sum 0 v r 0 app v sum 0 cons n 1 nil i", "i"},
	} {
		checked(t, c[0], impl.CheckGood, c[1])
		kinds[parsedTerm(t, c[0]).K] = true
	}
	if len(kinds) != 16 {
		t.Error("the test's own kinds, all but a name alone", len(kinds))
	}
}

func TestTypeOfManyInstances(t *testing.T) {
	for _, c := range [][2]string{
		{"let id 1 fn x v0 v x 0 v id 1 i", "f i i"},
		{"let id 1 fn x v0 v x 0 pair app v id 1 i n 1 app v id 1 b t", "p i b"},
		{"let id 1 fn x v0 v x 0 app app v id 1 f l b l b v id 1 l b nil b", "l b"},
		{"let none 1 nil v0 pair v none 1 i v none 1 l b", "p l i l l b"},
		{"let k 2 fn x v0 fn y v1 v x 0 pair v k 2 i b v k 2 b l i", "p f i f b i f b f l i b"},
		{"let k 2 fn x v0 fn y v1 v y 0 app app v k 2 b i t n 4", "i"},
		{"let k 2 fn x v1 fn y v0 pair v y 0 v x 0 v k 2 i b", "f b f i p i b"},
		{"let n 1 n 4 op + v n 1 b v n 1 l i", "i"},
		{"let n 2 t if v n 2 i b v n 2 b b u", "b"},
		{"let n 1 n 4 n 5", "i"},
		{"let a 0 n 4 let b 1 v a 0 v b 1 b", "i"},
		{"let id 1 fn x v0 v x 0 let as 1 v id 1 v0 v as 1 b", "f b b"},
		{"let id 1 fn x v0 v x 0 let on 1 v id 1 l v0 v on 1 b", "f l b l b"},
		{"let id 1 fn x v0 v x 0 let two 2 fn x v1 app v id 1 v1 v x 0 v two 2 b l i", "f l i l i"},
		{"let p 2 fn x v0 fn y v1 pair v x 0 v y 0 let q 2 v p 2 v1 v0 v q 2 i b", "f b f i p b i"},
		{"let k 2 fn x v0 fn y v1 v x 0 let j 2 fn z v0 v k 2 v1 v0 v j 2 i b", "f i f b f i b"},
		{"fix len 1 f l v0 i fn l l v0 case h r v l 0 n 0 op + n 1 app v len 0 v r 0 op + app v len 1 b nil b app v len 1 i nil i", "i"},
		{"fix map 2 f f v0 v1 f l v0 l v1 fn f f v0 v1 fn l l v0 case h r v l 0 nil v1 cons app v f 0 v h 0 app app v map 0 v f 0 v r 0 " +
			"app app v map 2 i b fn x i op < v x 0 n 1 cons n 1 nil i", "l b"},
		{"fix map 2 f f v0 v1 f l v0 l v1 fn f f v0 v1 fn l l v0 case h r v l 0 nil v1 cons app v f 0 v h 0 app app v map 0 v f 0 v r 0 " +
			"pair v map 2 i b v map 2 l i i", "p f f i b f l i l b f f l i i f l l i l i"},
		{"fix f 0 f i i fn x i app v f 0 v x 0 pair v f 0 v f 0", "p f i i f i i"},
		{"fix f 1 f v0 v0 fn x v0 app v f 0 v x 0 app v f 1 f i b fn x i t", "f i b"},
		{"fix f 1 f i i fn x i v x 0 v f 1 b", "f i i"},
		{"fix f 2 f v1 v0 fn x v1 app v f 0 v x 0 pair v f 2 i b v f 2 l b i", "p f b i f i l b"},
		// bindings without type variables, within one that has some, keep those of that one
		{"let f 1 fn x v0 let y 0 pair v x 0 v x 0 snd v y 0 app v f 1 b t", "b"},
		{"let f 1 fn x v0 fix g 0 f i v0 fn n i if op < v n 0 n 1 v x 0 app v g 0 op - v n 0 n 1 app v g 0 n 3 app v f 1 b t", "b"},
		{"fix f 2 f v0 f l v1 v0 fn x v0 fn l l v1 let y 0 v l 0 case h r v y 0 v x 0 app app v f 0 v x 0 v r 0 v f 2 i b", "f i f l b i"},
	} {
		checked(t, c[0], impl.CheckGood, c[1])
	}
}

// A name that an inner binder hid is met behind it as it was.
func TestHiddenNamesComeBack(t *testing.T) {
	for _, c := range [][2]string{
		{"fn x i pair fn x b v x 0 v x 0", "f i p f b b i"},
		{"fn x i pair v x 0 fn x b v x 0", "f i p i f b b"},
		{"fn x i fn x b pair fn x l i v x 0 v x 0", "f i f b p f l i l i b"},
		{"let x 0 n 1 pair let x 0 t v x 0 v x 0", "p b i"},
		{"let x 0 n 1 let x 0 op < v x 0 n 2 v x 0", "b"},
		{"let x 0 n 1 pair let x 0 t let x 0 nil i v x 0 v x 0", "p l i i"},
		{"let x 0 n 1 pair fix x 0 f b b fn y b v y 0 v x 0 v x 0", "p f b b i"},
		{"let x 0 n 1 pair fix f 0 f b b fn x b v x 0 v x 0 v x 0", "p i i"},
		{"fix x 0 f i i fn x i v x 0 v x 0", "f i i"},
		{"fix x 0 f i i fn y i app v x 0 v y 0 let x 0 t v x 0", "b"},
		{"let h 0 t let r 0 u pair case h r nil i n 0 v h 0 pair v h 0 v r 0", "p i p b b"},
		{"let h 0 t let r 0 u case h r nil i pair v h 0 v r 0 pair t u", "p b b"},
		{"let h 0 t case r h nil i nil i v h 0", "l i"},
		{"case h r nil l i n 0 case r h v h 0 n 1 v r 0", "i"},
		{"case h r nil l i nil i case r h v h 0 nil i v h 0", "l i"},
		{"let e 0 t pair try e n 1 v e 0 v e 0", "p i b"},
		{"let e 0 t try e v e 0 op < v e 0 n 1", "b"},
		{"let x 1 n 1 pair let x 0 t v x 0 v x 1 b", "p b i"},
		{"let x 0 n 1 pair let x 2 t v x 2 i i v x 0", "p b i"},
		{"let x 1 nil v0 let x 1 v x 1 l v0 v x 1 b", "l l b"},
		{"fix x 1 f v0 v0 fn y v0 app v x 0 v y 0 let x 1 v x 1 l v0 v x 1 b", "f l b l b"},
	} {
		checked(t, c[0], impl.CheckGood, c[1])
	}
}

// asOwn holds TypeOf against the test's own answer, which must have this code.
func asOwn(t *testing.T, text string, code int) {
	t.Helper()
	want, got := plainCheck(parsedTerm(t, text))
	if got != code {
		t.Errorf("the test's own: %s: %d, not %d", text, got, code)
	}
	checked(t, text, code, want)
}

func goodIf(ok bool, other int) int {
	if ok {
		return impl.CheckGood
	}
	return other
}

func TestAsManyTypesAsTypeVariables(t *testing.T) {
	for _, c := range []struct {
		text, name string
		vars       int
	}{
		{"fn x i #", "x", 0},
		{"let x 0 n 1 #", "x", 0},
		{"let x 1 n 1 #", "x", 1},
		{"let x 2 n 1 #", "x", 2},
		{"let x 1 nil v0 #", "x", 1},
		{"let x 2 fn y v1 nil v0 #", "x", 2},
		{"fix f 0 f i i fn y i fst pair n 1 # n 2", "f", 0},
		{"fix f 1 f v0 i fn y v0 fst pair n 1 # n 2", "f", 0},
		{"fix f 2 f v0 i fn y v0 fst pair n 1 # n 2", "f", 0},
		{"fix f 0 f i i fn y i n 1 #", "f", 0},
		{"fix f 1 f v0 i fn y v0 n 1 #", "f", 1},
		{"fix f 2 f v0 i fn y v0 n 1 #", "f", 2},
		{"fix f 2 f v0 i fn y v0 fst pair n 1 # n 2", "y", 0},
		{"case h r nil i n 0 fst pair n 1 #", "h", 0},
		{"case h r nil i n 0 fst pair n 1 #", "r", 0},
		{"try e n 1 fst pair n 1 #", "e", 0},
		{"let x 1 n 1 fn x i #", "x", 0},
		{"fn x i let x 1 n 1 #", "x", 1},
		{"let f 1 fn x v0 let y 0 v x 0 fst pair n 1 # n 2", "y", 0},
		{"let x 2 n 1 let f 1 fn y v0 # n 2", "x", 2},
		{"let x 1 nil v0 let f 1 # n 2", "x", 1},
	} {
		for n, ts := range []string{"", " i", " i l b"} {
			name := "v " + c.name + " " + strconv.Itoa(n) + ts
			asOwn(t, filled(c.text, name), goodIf(n == c.vars, impl.CheckPoly))
		}
	}
}

// varPlaces are texts whose hole may have a term of any type, with how many type variables may stand in it.
func varPlaces() map[string]int {
	return map[string]int{
		"#": 0, "fst pair n 1 #": 0, "fn x i #": 0, "let f 0 # n 1": 0, "let f 0 n 1 #": 0,
		"fix f 0 f i i fn x i fst pair n 1 # n 2":                                     0,
		"let f 1 fn x v0 # n 1":                                                       1,
		"let f 1 fn x i # n 1":                                                        1,
		"let f 2 fn x v1 # n 1":                                                       2,
		"fix f 1 f v0 i fn x v0 fst pair n 1 # n 2":                                   1,
		"fix f 2 f v1 i fn x v1 fst pair n 1 # n 2":                                   2,
		"let f 1 fn x v0 v x 0 #":                                                     0,
		"let f 2 fn x v1 v x 0 #":                                                     0,
		"fix f 1 f v0 v0 fn x v0 v x 0 #":                                             0,
		"fix f 2 f v1 v1 fn x v1 v x 0 #":                                             0,
		"pair let f 2 fn x v0 v x 0 n 1 #":                                            0,
		"pair fix f 1 f v0 v0 fn x v0 v x 0 n 1 #":                                    0,
		"let f 1 fn x v0 v x 0 let g 2 fn y v0 # n 1":                                 2,
		"let f 2 fn x v0 v x 0 let g 1 fn y v0 # n 1":                                 1,
		"let f 0 let g 2 fn x v1 # n 1 n 2":                                           2,
		"let f 0 let g 2 fn x v1 v x 0 # n 2":                                         0,
		"let f 1 fn x v0 let y 0 # n 1 n 2":                                           1,
		"let f 2 fn x v0 let y 0 n 1 # n 2":                                           2,
		"let f 1 fn x v0 pair let y 0 v x 0 v y 0 # n 2":                              1,
		"fix f 2 f v0 i fn x v0 let y 0 # n 1 n 2":                                    2,
		"let f 1 fn x v0 fix g 0 f i i fn z i v z 0 # n 2":                            1,
		"let f 2 fn x v0 fix g 0 f i i fn z i fst pair n 1 # n 1 n 2":                 2,
		"fix f 1 f v0 i fn x v0 fix g 0 f v0 i fn z v0 fst pair n 1 # n 1 n 2":        1,
		"let f 1 fn x v0 case h r nil v0 n 1 fst pair n 1 # n 2":                      1,
		"let f 2 fn x v0 try e n 1 fst pair n 1 # n 2":                                2,
		"let f 2 fn x v0 if t op + n 1 app fn y i n 1 snd pair # n 1 raise i n 2 n 3": 2,
	}
}

func TestWhereTypeVariablesMayStand(t *testing.T) {
	around := "let id 1 fn x v0 v x 0 let c 1 n 1 let k 2 fn a v0 fn b v1 n 1 #"
	places := []string{
		"fn y # n 1", "fn y # v y 0", "nil #", "raise # n 1", "fix g 0 f # i fn y # n 1 n 2", "fix g 0 f i # fn y i raise # n 1 n 2",
		"v id 1 #", "v c 1 #", "v k 2 # i", "v k 2 i #", "v k 2 # #",
	}
	for text, vars := range varPlaces() {
		for _, place := range places {
			for n := range 2 {
				for _, form := range []string{"v#", "l v#", "p i v#", "f v# b"} {
					ty := strings.ReplaceAll(form, "#", strconv.Itoa(n))
					whole := filled(around, filled(text, strings.ReplaceAll(place, "#", ty)))
					asOwn(t, whole, goodIf(n < vars, impl.CheckPoly))
				}
			}
			asOwn(t, filled(around, filled(text, strings.ReplaceAll(place, "#", "i"))), impl.CheckGood)
		}
	}
}

// The type of a fix may have the type variables of that fix, though it does not stand in its first part.
func TestTypeVariablesOfAFix(t *testing.T) {
	for _, text := range []string{"#", "let f 2 fn x v1 v x 0 #", "let f 0 # n 1", "pair fix f 2 f v1 v1 fn x v1 v x 0 n 1 #"} {
		for n := range 3 {
			for v := range 2 {
				fix := strings.NewReplacer("N", strconv.Itoa(n), "V", "v"+strconv.Itoa(v)).Replace("fix g N f V V fn y V v y 0 n 1")
				asOwn(t, filled(text, fix), goodIf(v < n, impl.CheckPoly))
				alone := strings.NewReplacer("N", strconv.Itoa(n), "V", "v"+strconv.Itoa(v)).Replace("fix g N f V i fn y i n 1 n 2")
				asOwn(t, filled(text, alone), map[bool]int{true: impl.CheckType, false: impl.CheckPoly}[v < n])
			}
		}
	}
}

func TestNoTypeVariablesWithinOthers(t *testing.T) {
	inner := []string{"let g M fn y v0 v y 0 n 1", "let g M n 2 n 1", "fix g M f v0 v0 fn y v0 v y 0 n 1", "fix g M f i i fn y i v y 0 n 1"}
	first := []string{
		"let f N fn x i # n 2", "let f N fn x i fn z b # n 2", "let f N fn x i let z 0 # n 2 n 3", "let f N fn x i let z 0 n 2 # n 3", "let f N fn x i op + n 1 # n 2",
		"let f N fn x i case h r nil i n 1 # n 2", "let f N fn x i try e # v e 0 n 2", "let f N fn x i fix z 0 f i i fn w i # n 2 n 3", "let f N fn x i fix z 0 f i i fn w i v w 0 # n 3",
		"fix f N f i i fn x i # n 2", "fix f N f i i fn x i if t n 1 # n 2", "fix f N f i i fn x i let z 0 # n 2 n 3", "fix f N f i i fn x i let z 0 n 2 # n 3", "fix f N f i i fn x i fix z 0 f i i fn w i # n 2 n 3",
	}
	second := []string{
		"let f N n 1 #", "let f N fn x i n 1 op + n 1 #", "fix f N f i i fn x i v x 0 #", "fix f N f i i fn x i v x 0 let z 0 # n 1", "let f N n 1 fix z 0 f i i fn w i # n 2",
		"pair let f N fn x i n 1 n 2 #", "pair fix f N f i i fn x i n 1 n 2 #",
	}
	for n := range 3 {
		for m := range 3 {
			for _, in := range inner {
				in := strings.ReplaceAll(in, "M", strconv.Itoa(m))
				if m == 0 {
					in = strings.ReplaceAll(in, "v0", "i")
				}
				for _, out := range first {
					asOwn(t, filled(strings.ReplaceAll(out, "N", strconv.Itoa(n)), in), goodIf(n == 0 || m == 0, impl.CheckPoly))
				}
				for _, out := range second {
					asOwn(t, filled(strings.ReplaceAll(out, "N", strconv.Itoa(n)), in), impl.CheckGood)
				}
			}
		}
	}
}

// values are of each kind that is a value, others of each other one; all have a type where a is a number.
func values() []string {
	return []string{"n 1", "t", "u", "v a 0", "fn x i v x 0", "nil i"}
}

func others() []string {
	return []string{"app fn x i v x 0 n 1", "let x 0 n 1 v x 0", "fix f 0 f i i fn x i v x 0 v f 0", "if t n 1 n 2", "pair n 1 n 2", "fst pair n 1 n 2", "snd pair n 1 n 2",
		"cons n 1 nil i", "case h r nil i n 1 v h 0", "op + n 1 n 2", "raise i n 1", "try e n 1 v e 0"}
}

func TestOnlyValuesHaveTypeVariables(t *testing.T) {
	for n := range 3 {
		for _, text := range values() {
			asOwn(t, filled("let a 0 n 1 let q "+strconv.Itoa(n)+" # n 2", text), impl.CheckGood)
		}
		for _, text := range others() {
			asOwn(t, filled("let a 0 n 1 let q "+strconv.Itoa(n)+" # n 2", text), goodIf(n == 0, impl.CheckPoly))
		}
	}
}

func TestIsValue(t *testing.T) {
	kinds := map[int]bool{}
	for _, text := range values() {
		term := parsedTerm(t, text)
		kinds[term.K] = true
		if !impl.IsValue(term) {
			t.Error("a value", text)
		}
	}
	for _, text := range others() {
		term := parsedTerm(t, text)
		kinds[term.K] = true
		if impl.IsValue(term) {
			t.Error("no value", text)
		}
	}
	if len(kinds) != 17 {
		t.Error("the test's own kinds", len(kinds))
	}
	for _, kind := range []int{0, -1, 18, 19, 1000} {
		if impl.IsValue(impl.Term{K: kind}) || impl.IsValue(impl.Term{K: kind, S: "x", N: 1, A: []impl.Term{tmNum(1)}}) {
			t.Error("a kind that there is not", kind)
		}
	}
	// a value in what has no type is still one
	for _, text := range []string{"v nobody 0", "v nobody 2 i v0", "fn x v1 fst n 1", "nil v0"} {
		if !impl.IsValue(parsedTerm(t, text)) {
			t.Error("a value", text)
		}
	}
	for _, term := range wrongTerms() {
		impl.IsValue(term)
	}
}

// smallTree is a type of this many nodes, 1 .. 31, no deeper than 5.
func smallTree(nodes int) impl.Ty {
	switch nodes {
	case 1:
		return tyInt
	case 2:
		return tyList(tyBool)
	}
	half := (nodes - 1) / 2
	return tyPair(smallTree(half), smallTree(nodes-1-half))
}

func TestTypesThatAreJustRight(t *testing.T) {
	lists := func(n int) string { return strings.Repeat("l ", n) }
	for _, c := range []struct {
		text string
		most int // that many lists in its hole are just right
	}{
		{"fn x #i n 1", 4}, {"fn x i nil #i", 3}, {"fn x i raise #i n 1", 4}, {"pair raise #i n 1 n 2", 4}, {"pair n 2 raise #i n 1", 4}, {"nil #i", 4},
		{"fst pair n 1 nil #i", 3}, {"app fn x i n 1 snd pair nil #i n 2", 3}, {"let x 0 fn y #i n 1 n 2", 4},
		{"let x 1 nil v0 v x 1 #i", 4}, {"let x 2 fn y v0 v y 0 v x 2 #i b", 4}, {"let x 2 fn y v1 v y 0 v x 2 b #i", 4}, {"let x 1 n 1 v x 1 #i", 5},
		{"fix f 1 f v0 v0 fn y v0 v y 0 v f 1 #i", 4}, {"fix f 1 f v0 l v0 fn y v0 nil v0 v f 1 #i", 3}, {"raise #i n 1", 5}, {"let f 1 fn x v0 nil #v0 n 1", 3},
	} {
		for n := range 6 {
			asOwn(t, filled(c.text, lists(n)), goodIf(n <= c.most, impl.CheckType))
		}
	}
	for more := -2; more <= 3; more++ {
		for _, text := range []string{"pair raise A n 1 raise B n 1", "fn x A raise B n 1", "let f 2 fn x v0 raise v1 n 1 v f 2 A B", "fst pair raise B n 1 raise A n 1", "fix f 2 f v0 v1 fn x v0 raise v1 n 1 v f 2 A B"} {
			whole := strings.NewReplacer("A", plainText(smallTree(31)), "B", plainText(smallTree(28+more))).Replace(text)
			asOwn(t, whole, goodIf(more <= 0, impl.CheckType))
		}
	}
	big := smallTree(31)
	if plainTyDepth(plainText(big)) != 5 || impl.TyNodes(big) != 31 || impl.TyNodes(smallTree(28)) != 28 {
		t.Error("the test's own types")
	}
}

func TestCheckForm(t *testing.T) {
	for why, term := range wrongTerms() {
		if ty, code := impl.TypeOf(term); code != impl.CheckForm || !zeroTy(ty) {
			t.Error(why, ty, code)
		}
		if impl.Program(term) {
			t.Error("Program", why)
		}
		for _, code := range faultCodes() {
			for _, fault := range refused(code) {
				for _, whole := range []impl.Term{tmOf(impl.TmPair, parsedTerm(t, fault), term), tmOf(impl.TmApp, term, parsedTerm(t, fault)), tmLet("q", 1, parsedTerm(t, fault), term)} {
					if ty, code := impl.TypeOf(whole); code != impl.CheckForm || !zeroTy(ty) {
						t.Error("beside", fault, why, ty, code)
					}
				}
			}
		}
	}
}

func TestCheckName(t *testing.T) {
	for _, text := range []string{
		"v x 0", "fn x i v y 0", "app v f 0 n 1", "op + n 1 v y 0", "raise i v x 0",
		// what a binder does not reach
		"app fn x i v x 0 v x 0", "app v x 0 fn x i v x 0", "let x 0 v x 0 n 1", "let x 1 v x 0 n 1", "let x 2 v x 2 i i n 1", "pair let x 0 n 1 v x 0 v x 0",
		"fix f 0 f i i fn x i v x 0 v x 0", "pair fix f 0 f i i fn x i app v f 0 v x 0 v f 0 v f 0", "pair fix f 0 f i i fn x i v x 0 v f 0 v f 0",
		"case h r v h 0 n 0 n 1", "case h r v r 0 n 0 n 1", "case h r nil i v h 0 n 1", "case h r nil i v r 0 n 1", "pair case h r nil i n 0 v h 0 v h 0", "pair case h r nil i n 0 v h 0 v r 0",
		"try e v e 0 n 1", "pair try e n 1 v e 0 v e 0",
		// what an inner binder of the same name hid
		"pair fn x i fn x b v x 0 v x 0", "pair let x 0 n 1 let x 0 t v x 0 v x 0", "pair fn x i fn x b fn x i v x 0 v x 0", "pair try x n 1 let x 0 t n 2 v x 0",
		"pair case x y nil i n 0 case y x nil i n 1 v y 0 v x 0", "pair case x y nil i n 0 case y x nil i n 1 v y 0 v y 0", "pair fix x 0 f i i fn x i v x 0 v x 0 v x 0",
		"pair let x 0 n 1 fix x 0 f i i fn x i v x 0 v x 0 v x 0", "pair let x 1 n 1 let x 2 n 1 v x 2 i i v x 2 i i",
		// another name
		"fn x i v x.1 0", "fn x.1 i v x 0", "fn ab i v a 0", "fn a i v ab 0",
		// of one name several reasons
		"v x 1 v0", "v x 2 i i", "v x 2 v1 v1",
	} {
		checked(t, text, impl.CheckName, "")
	}
}

func TestCheckType(t *testing.T) {
	for _, text := range []string{
		"app n 1 n 2", "app t n 2", "app pair n 1 n 2 n 1", "app nil f i i n 1", "app fn x i v x 0 t", "app fn x b v x 0 n 1", "app fn x l i n 1 nil b", "app fn x f i b n 1 fn y i n 1", "app app fn x i v x 0 n 1 n 2",
		"fn x i app v x 0 v x 0", "let x 0 n 1 app v x 0 n 2", "let id 1 fn x v0 v x 0 app v id 1 b n 1",
		"fix f 0 f i b fn x i v x 0 n 1", "fix f 0 f i b fn x b v x 0 n 1", "fix f 0 i fn x i v x 0 n 1", "fix f 0 f i i fn x i t n 1", "fix f 0 l i fn x i n 1 v f 0", "fix f 1 f v0 i fn x v0 v x 0 n 1",
		"fix f 2 f v0 v1 fn x v1 v x 0 n 1", "fix f 1 v0 fn x v0 v x 0 n 1", "fix f 0 f i i fn x i app v f 0 t n 1", "fix f 0 f i i fn x i v x 0 app v f 0 t",
		"if n 1 n 2 n 3", "if nil b n 2 n 3", "if t n 1 t", "if t nil i nil b", "if u pair n 1 t pair t n 1",
		"fst n 1", "fst nil i", "fst fn x i n 1", "fst t", "snd n 1", "snd nil i", "snd fn x i n 1", "snd snd pair n 1 n 2", "fst fst pair n 1 n 2",
		"cons n 1 nil b", "cons t nil i", "cons n 1 n 2", "cons nil i nil i", "cons n 1 pair n 1 nil i", "cons n 1 fn x i n 1",
		"case h r n 1 n 2 n 3", "case h r pair nil i nil i n 2 n 3", "case h r fn x i n 1 n 2 n 3", "case h r nil i n 1 t", "case h r nil i nil b v r 0", "case h r nil b n 0 v h 0", "case h r nil i n 0 v r 0",
		"op + t n 1", "op + n 1 t", "op - t n 1", "op - n 1 t", "op * t n 1", "op * n 1 t", "op < t n 1", "op < n 1 t", "op = t n 1", "op = n 1 t", "op = t t", "op = nil i nil i", "op + nil i n 1", "op < n 1 pair n 1 n 2",
		"raise i t", "raise b t", "raise i nil i", "raise l i raise b n 1",
		"try x t v x 0", "try x n 1 t", "try x nil i nil b", "try x raise b n 1 v x 0", "try x fn y i v y 0 fn y b v y 0", "try x n 1 app v x 0 n 1",
		"let f 1 fn x v0 op + v x 0 n 1 n 2", "let f 2 fn x v0 fn y v1 if t v x 0 v y 0 n 2", "let f 1 fn x v0 cons v x 0 nil i n 2", "let f 2 fn x v0 cons v x 0 nil v1 n 2",
	} {
		checked(t, text, impl.CheckType, "")
	}
}

func TestCheckPoly(t *testing.T) {
	for _, text := range []string{
		"let f 1 fn x i let g 1 n 1 n 2 n 3", "let f 1 fn x i fix g 1 f i i fn y i n 1 n 2 n 3", "fix f 1 f i i fn x i let g 2 n 1 n 2 n 3", "fix f 2 f i i fn x i fix g 1 f i i fn y i n 1 n 2 n 3",
		"let f 1 let g 1 fn x v0 v x 0 v g 1 v0 n 1", "let f 1 let g 0 n 1 n 2 n 3",
		"let p 1 pair n 1 n 2 n 3", "let p 2 op + n 1 n 2 n 3", "let p 1 raise v0 n 1 n 3",
		"let id 1 fn x v0 v x 0 v id 0", "let id 1 fn x v0 v x 0 v id 2 i i", "let k 2 n 1 v k 1 i", "fn x i v x 1 i", "try e n 1 v e 2 i b", "case h r nil i n 0 v h 1 i", "fix f 1 f i i fn x i app v f 1 i v x 0 n 1",
		"fn x v0 n 1", "nil v0", "nil v1", "raise v0 n 1", "fix f 0 f v0 v0 fn x v0 v x 0 n 1", "let id 0 fn x v0 v x 0 n 1", "let id 1 fn x v1 v x 0 n 1", "fix f 1 f v1 v1 fn x v1 v x 0 n 1",
		"let id 1 fn x v0 v x 0 v id 1 v0", "let id 1 fn x v0 v x 0 v id 1 l v1", "let c 1 n 1 v c 1 v0", "let id 1 fn x v0 v x 0 let g 1 v id 1 v1 n 1", "let id 1 fn x v0 v x 0 nil v0",
	} {
		checked(t, text, impl.CheckPoly, "")
	}
}

// manyParts are texts with a hole for each of two or more parts, and what makes them right.
func manyParts() map[string][]string {
	return map[string][]string{
		"app # #":                  {"fn x i v x 0", "n 1"},
		"let x 0 # #":              {"n 1", "v x 0"},
		"let x 1 fn y i # #":       {"n 1", "v x 1 b"},
		"fix f 0 f i i fn x i # #": {"v x 0", "app v f 0 n 1"},
		"fix f 2 f i i fn x i # #": {"app v f 0 v x 0", "v f 2 i b"},
		"if # # #":                 {"t", "n 1", "n 2"},
		"pair # #":                 {"n 1", "t"},
		"cons # #":                 {"n 1", "nil i"},
		"case h r # # #":           {"nil i", "n 0", "v h 0"},
		"op + # #":                 {"n 1", "n 2"},
		"op = # #":                 {"n 1", "n 2"},
		"try e # #":                {"n 1", "v e 0"},
		"pair fst # snd #":         {"pair n 1 n 2", "pair n 3 n 4"},
		"cons raise i # #":         {"n 1", "nil i"},
	}
}

func TestTheFirstOfTwoFaults(t *testing.T) {
	for text, right := range manyParts() {
		asOwn(t, filled(text, right...), impl.CheckGood)
		for first := range right {
			for _, code := range faultCodes() {
				for _, fault := range refused(code) {
					parts := append([]string{}, right...)
					parts[first] = fault
					checked(t, filled(text, parts...), code, "")
					anotherBehind(t, text, parts, first, code)
				}
			}
		}
	}
}

// anotherBehind puts a second fault behind the first one, which stays the one that is told.
func anotherBehind(t *testing.T, text string, parts []string, first, code int) {
	t.Helper()
	for second := first + 1; second < len(parts); second++ {
		for _, other := range faultCodes() {
			for _, fault := range refused(other) {
				both := append([]string{}, parts...)
				both[second] = fault
				checked(t, filled(text, both...), code, "")
			}
		}
	}
}

// What a term wants of its parts it asks behind them all.
func TestPartsFaultsComeAheadOfWhatIsAskedOfThem(t *testing.T) {
	for _, c := range [][2]string{
		{"app n 1 #", "n 1"}, {"app # n 1", "t"}, {"app fn x i n 1 #", "t"}, {"app fn x b # n 1", "n 2"},
		{"fix f 0 f i b fn x i v x 0 #", "n 1"}, {"fix f 0 i fn x i v x 0 #", "n 1"}, {"fix f 0 f i b fn x i # n 1", "v x 0"}, {"fix f 1 f v0 i fn x v0 v x 0 #", "n 1"},
		{"if n 1 # n 2", "n 1"}, {"if n 1 n 2 #", "n 1"}, {"if # n 1 n 2", "n 1"}, {"if t n 1 #", "t"}, {"if t # n 1", "t"},
		{"fst #", "n 1"}, {"snd #", "n 1"},
		{"cons n 1 #", "nil b"}, {"cons n 1 #", "n 1"}, {"cons # n 1", "n 1"}, {"cons # nil i", "t"},
		{"case h r # n 1 n 2", "n 1"}, {"case h r nil i # n 1", "t"}, {"case h r nil i n 1 #", "t"}, {"case h r nil i t #", "v h 0"},
		{"op + t #", "n 1"}, {"op + # n 1", "t"}, {"op < t #", "n 1"}, {"op = n 1 #", "t"},
		{"raise i #", "t"}, {"raise b #", "u"},
		{"try e t #", "v e 0"}, {"try e # t", "n 1"},
		// a type that would be too deep
		{"fn x l l l l l i #", "n 1"}, {"fn x i #", "nil l l l l i"}, {"pair nil l l l l i #", "n 1"}, {"pair # n 1", "nil l l l l i"},
		// within others, too
		{"let x 0 op + t # n 1", "n 1"}, {"fn x i pair n 1 if v x 0 n 2 #", "n 1"},
	} {
		checked(t, filled(c[0], c[1]), impl.CheckType, "")
		for _, code := range faultCodes() {
			for _, fault := range refused(code) {
				checked(t, filled(c[0], fault), code, "")
			}
		}
	}
}

// What is asked ahead of a part is told, whatever is wrong in that part.
func TestWhatIsAskedAheadOfTheParts(t *testing.T) {
	for _, c := range []struct {
		text string
		code int
	}{
		{"case h r n 1 # n 2", impl.CheckType}, {"case h r n 1 n 2 #", impl.CheckType}, {"case h r pair nil i nil i # #", impl.CheckType}, {"case h r fn x i n 1 # v h 0", impl.CheckType},
		{"fn x v0 #", impl.CheckPoly}, {"raise v0 #", impl.CheckPoly}, {"fix f 0 f v0 i fn x i # n 1", impl.CheckPoly}, {"fix f 0 f v0 i fn x i n 1 #", impl.CheckPoly}, {"fix f 1 f v1 i fn x i # #", impl.CheckPoly},
		{"let p 1 pair # n 1 n 2", impl.CheckPoly}, {"let p 1 pair n 1 n 2 #", impl.CheckPoly}, {"let p 2 fst # n 2", impl.CheckPoly}, {"let p 2 op + n 1 # #", impl.CheckPoly},
		{"let f 1 fn x v0 let g 1 fn y v0 # v x 0 n 1", impl.CheckPoly}, {"let f 1 fn x v0 let g 1 n 1 # n 1", impl.CheckPoly}, {"let f 1 fn x v0 let g 1 n 1 n 2 #", impl.CheckPoly},
		{"let f 1 fn x v0 fix g 1 f i i fn y i # n 2 n 3", impl.CheckPoly}, {"fix f 1 f i i fn x i let g 2 n 1 # n 3", impl.CheckPoly}, {"fix f 2 f i i fn x i fix g 1 f i i fn y i n 1 # n 3", impl.CheckPoly},
		{"pair nil v0 #", impl.CheckPoly}, {"app nil l l l l l i #", impl.CheckType}, {"let x 0 n 1 pair v x 1 i #", impl.CheckPoly},
		{"let x 0 fst n 1 #", impl.CheckType}, {"let x 1 v nobody 0 #", impl.CheckName}, {"let x 1 fn y v1 # #", impl.CheckPoly},
		{"let id 1 nil v0 pair v id 1 l l l l l i #", impl.CheckType}, {"let id 1 nil v0 pair v id 1 v0 #", impl.CheckPoly},
	} {
		for _, code := range faultCodes() {
			for _, fault := range refused(code) {
				checked(t, strings.ReplaceAll(c.text, "#", fault), c.code, "")
			}
		}
	}
	for _, text := range []string{"pair # let p 1 pair n 1 n 2 n 3", "pair # nil v0", "app # fn x v0 n 1", "if # raise v0 n 1 n 2", "op + # case h r n 1 n 2 n 3", "let f 1 fn x v0 pair # let g 1 n 1 n 2 n 3", "cons # v nobody 0"} {
		for _, code := range faultCodes() {
			for _, fault := range refused(code) {
				checked(t, filled(text, fault), code, "")
			}
		}
	}
}

// Of one place the reason that the chapter names first counts.
func TestSeveralReasonsAtOnePlace(t *testing.T) {
	checked(t, "v x 1 v0", impl.CheckName, "")
	checked(t, "let x 1 nil v0 v y 1 l l l l l v0", impl.CheckName, "")
	checked(t, "nil l l l l l v0", impl.CheckPoly, "")
	checked(t, "nil l l l l l i", impl.CheckType, "")
	checked(t, "let x 1 nil v0 v x 1 l l l l l v0", impl.CheckPoly, "")
	checked(t, "let x 1 nil v0 v x 1 l l l l l i", impl.CheckType, "")
	checked(t, "let x 2 nil v0 v x 1 l l l l l i", impl.CheckPoly, "")
	checked(t, "let x 1 nil v0 v x 2 l l l l l i i", impl.CheckPoly, "")
	checked(t, "fn x l l l l l v0 n 1", impl.CheckPoly, "")
	checked(t, "fix f 0 v0 fn x i n 1 n 2", impl.CheckPoly, "")
	checked(t, "raise v1 t", impl.CheckPoly, "")
	checked(t, "let f 1 nil l l l l l v0 n 1", impl.CheckType, "")
	checked(t, "let f 1 nil l l l l l v1 n 1", impl.CheckPoly, "")
}

func TestProgram(t *testing.T) {
	for text, want := range map[string]bool{
		"n 1": true, "t": true, "nil i": true, "cons n 1 cons n 2 nil i": true, "op < n 1 n 2": true, "raise i n 1": true, "raise b n 1": true, "raise l i n 1": true,
		"let id 1 fn x v0 v x 0 app v id 1 l i nil i": true, "snd pair t n 1": true,
		"nil b": false, "nil l i": false, "raise l l i n 1": false, "raise l p i i n 1": false, "raise l f i i n 1": false, "pair n 1 n 2": false, "raise p i b n 1": false, "fn x i v x 0": false, "raise f i i n 1": false,
		"raise p l i l i n 1": false, "let id 1 fn x v0 v x 0 v id 1 i": false, "nil v0": false, "v x 0": false, "app n 1 n 2": false, "let id 1 fn x v0 v x 0 n 1": true, "let id 1 pair n 1 n 2 n 1": false,
	} {
		if got := impl.Program(parsedTerm(t, text)); got != want {
			t.Error(text, got)
		}
	}
	for _, text := range []string{
		"let x# 0 n 1 n 2", "let x# 0 n 1 v x# 0", "let x# 1 fn y v0 v y 0 app v x# 1 i n 1", "app fn x# i v x# 0 n 1", "app fn x# i n 2 n 1", "fix f# 0 f i i fn x i v x 0 n 1", "fix f 0 f i i fn x# i v x# 0 app v f 0 n 1",
		"case h# r nil i n 0 n 1", "case h r# nil i n 0 v h 0", "try e# n 1 v e# 0", "try e# t u", "let x# 0 nil i cons n 1 v x# 0",
	} {
		for dot, want := range map[string]bool{"": true, ".": false, ".1": false, "..": false, "1": true} {
			term := parsedTerm(t, strings.ReplaceAll(text, "#", dot))
			if _, code := impl.TypeOf(term); code != impl.CheckGood {
				t.Error("a name with a point is a name", plainTermText(term), code)
			}
			if got := impl.Program(term); got != want {
				t.Error("Program", plainTermText(term), got)
			}
		}
	}
}

// The largest terms there are.
func TestTypeOfLargeTerms(t *testing.T) {
	for _, wrap := range []func(impl.Term) impl.Term{
		func(t impl.Term) impl.Term { return tmOp(1, t, tmNum(1)) },
		func(t impl.Term) impl.Term { return tmOp(1, tmNum(1), t) },
		func(t impl.Term) impl.Term { return tmLet("x", 0, tmNum(1), t) },
		func(t impl.Term) impl.Term { return tmLet("x", 0, t, tmVar("x")) },
		func(t impl.Term) impl.Term { return tmOf(impl.TmIf, tmBool(1), tmNum(2), t) },
		func(t impl.Term) impl.Term { return tmTry("x", tmNum(2), t) },
		func(t impl.Term) impl.Term { return tmLet("x", 2, tmNum(1), t) },
	} {
		deepest := wrapped(wrap, impl.MaxNest-1, tmNum(1))
		checkedTerm(t, deepest, impl.CheckGood, "i")
		checkedTerm(t, wrap(deepest), impl.CheckForm, "")
		other := wrapped(wrap, impl.MaxNest-1, tmBool(1))
		ty, code := plainCheck(other)
		checkedTerm(t, other, code, ty)
		checkedTerm(t, wrapped(wrap, impl.MaxNest-1, tmVar("y")), impl.CheckName, "")
	}
	checkedTerm(t, sumOfNodes(impl.MaxNodes), impl.CheckGood, "i")
	checkedTerm(t, sumOfNodes(impl.MaxNodes+1), impl.CheckForm, "")
}

// Terms by chance: those that should have a type, the same ones spoilt, and such that never had one.
func TestTypeOfTermsByChance(t *testing.T) {
	met := map[int]int{}
	ask := func(term impl.Term) {
		if !impl.TermOk(term) {
			checkedTerm(t, term, impl.CheckForm, "")
			met[impl.CheckForm]++
			return
		}
		ty, code := plainCheck(term)
		checkedTerm(t, term, code, ty)
		met[code]++
	}
	typed := typedTerms(6000)
	for _, term := range typed {
		ask(term)
	}
	if met[impl.CheckGood] < 5000 {
		t.Error("too few have a type", met)
	}
	r := rand.New(rand.NewSource(5))
	for _, term := range typed {
		once := spoilt(r, term)
		ask(once)
		ask(spoilt(r, once))
	}
	for _, term := range anyTerms(2000) {
		ask(term)
	}
	for code := range 5 {
		if met[code] < 500 {
			t.Error("too few of a code", code, met)
		}
	}
}

func checkTerms() []impl.Term {
	all := append(typedTerms(400), anyTerms(200)...)
	for _, c := range kindCases() {
		all = append(all, c.term)
	}
	return all
}

func TestCheckArgumentsStay(t *testing.T) {
	all := checkTerms()
	for _, term := range wrongFields() {
		all = append(all, term)
	}
	for _, term := range all {
		roomy := roomyTerm(term)
		kept := fullTerm(roomy)
		impl.TypeOf(roomy)
		impl.IsValue(roomy)
		impl.Program(roomy)
		if !reflect.DeepEqual(fullTerm(roomy), kept) {
			t.Fatal("an argument was written to", term)
		}
	}
}

// What lies behind a list's length is not there.
func TestCheckSpareRoomIsNotRead(t *testing.T) {
	for _, term := range checkTerms() {
		ty, code := plainCheck(term)
		checkedTerm(t, roomyTerm(term), code, ty)
	}
}

func TestTypeOfAnswersAreNewMemory(t *testing.T) {
	all := checkTerms()
	for _, text := range []string{
		"fn x p i b v x 0", "fn x l i pair v x 0 v x 0", "raise p l i l i n 1", "nil p l b f i i", "let id 1 fn x v0 v x 0 v id 1 l p i b", "let k 2 fn x v0 fn y v1 pair v x 0 v y 0 v k 2 l i l i",
		"fix f 0 f l i l i fn x l i v x 0 pair v f 0 v f 0", "case h r nil l l i pair nil l i nil l l i pair v h 0 v r 0", "case h r nil p i b pair nil p i b nil p i b pair v r 0 v r 0",
		"fn x p l i l i if t fst v x 0 snd v x 0", "try e raise p i l i n 1 pair v e 0 nil i", "cons nil i nil l i", "fn f f l i p l i l i app v f 0 nil i", "fix f 1 f v0 p v0 v0 fn x v0 pair v x 0 v x 0 v f 1 l i",
	} {
		term := parsedTerm(t, text)
		if _, code := impl.TypeOf(term); code != impl.CheckGood {
			t.Error("the test's own", text, code)
		}
		all = append(all, term)
	}
	for _, term := range all {
		roomy := roomyTerm(term)
		first, _ := impl.TypeOf(roomy)
		second, _ := impl.TypeOf(roomy)
		ownPlaces(t, plainTermText(term), tyPlaces(first.A), tyPlaces(second.A), placesOf(roomy))
	}
}

func TestChangingATypeOfChangesNothingElse(t *testing.T) {
	term := parsedTerm(t, "fn x p l i l i pair v x 0 pair fst v x 0 v x 0")
	text := "f p l i l i p p l i l i p l i p l i l i"
	ty, _ := impl.TypeOf(term)
	count := len(tyPlaces(ty.A))
	if count < 15 || plainText(ty) != text {
		t.Fatal("the test's own term", count, plainText(ty))
	}
	for i := range count {
		ty, _ := impl.TypeOf(term)
		places := tyPlaces(ty.A)
		kept := make([]any, len(places))
		for j, place := range places {
			kept[j] = shallow(place)
		}
		place := places[i].(*impl.Ty)
		place.K, place.N = 50, 3
		for j, place := range places {
			if j != i && !reflect.DeepEqual(shallow(place), kept[j]) {
				t.Fatal("another part changed", i, j)
			}
		}
		checkedTerm(t, term, impl.CheckGood, text)
	}
}
