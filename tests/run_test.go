package tests

import (
	"math"
	"reflect"
	"strconv"
	"strings"
	"testing"

	"loop.example/g00187/impl"
)

func TestRunConstants(t *testing.T) {
	got := []int{impl.MaxFuel, impl.EndValue, impl.EndRaise, impl.EndFuel}
	if want := []int{20000, 1, 2, 3}; !reflect.DeepEqual(got, want) {
		t.Error(got, want)
	}
}

// runCase is a program, what it ends with, and how many steps it takes.
type runCase struct {
	text, told string
	steps      int
}

func ranAll(t *testing.T, cases []runCase) {
	t.Helper()
	for _, c := range cases {
		ran(t, c.text, c.told, c.steps)
	}
}

func TestRunEachKind(t *testing.T) {
	ranAll(t, []runCase{
		{"n 0", "0", 1}, {"n 12", "12", 1}, {"n -5", "-5", 1}, {"n 1000000", "1000000", 1}, {"n -1000000", "-1000000", 1},
		{"t", "t", 1}, {"u", "u", 1}, {"nil i", "[]", 1}, {"nil f i l b", "[]", 1}, {"fn x i v x 0", "fn", 1}, {"fn x i raise i n 1", "fn", 1},
		{"app fn x i v x 0 n 4", "4", 4}, {"app fn x i n 3 n 4", "3", 4}, {"app fn x i op + v x 0 v x 0 n 4", "8", 6},
		{"let x 0 n 1 v x 0", "1", 3}, {"let x 0 n 1 t", "t", 3}, {"let x 2 n 1 v x 2 i b", "1", 3}, {"let x 0 op + n 1 n 2 op * v x 0 v x 0", "9", 7},
		{"fix f 0 f i i fn x i v x 0 v f 0", "fn", 2}, {"fix f 0 f i i fn x i v x 0 n 2", "2", 2}, {"fix f 0 f i i fn x i v x 0 app v f 0 n 3", "3", 5}, {"fix f 1 f v0 v0 fn x v0 v x 0 app v f 1 b u", "u", 5},
		{"if t n 1 n 2", "1", 3}, {"if u n 1 n 2", "2", 3}, {"if op < n 1 n 2 t u", "t", 5},
		{"pair n 1 t", "(1,t)", 3}, {"fst pair n 1 t", "1", 4}, {"snd pair n 1 t", "t", 4},
		{"cons n 1 nil i", "[1]", 3}, {"cons n 1 cons n 2 nil i", "[1,2]", 5},
		{"case h r nil i n 0 v h 0", "0", 3}, {"case h r cons n 7 nil i n 0 v h 0", "7", 5}, {"case h r cons n 7 cons n 8 nil i nil i v r 0", "[8]", 7}, {"case h r cons n 7 nil i nil i v r 0", "[]", 5},
		{"op + n 1 n 2", "3", 3}, {"op - n 1 n 2", "-1", 3}, {"op * n 3 n -2", "-6", 3}, {"op < n 1 n 2", "t", 3}, {"op = n 1 n 2", "u", 3},
		{"raise i n 5", "raise 5", 2}, {"raise l b n -1000000", "raise -1000000", 2}, {"raise i op + n 1 n 2", "raise 3", 4}, {"raise f i i n 0", "raise 0", 2},
		{"try e n 1 v e 0", "1", 2}, {"try e raise i n 5 v e 0", "5", 4}, {"try e raise i n 5 n 6", "6", 4},
	})
}

func TestRunOps(t *testing.T) {
	for _, c := range []struct {
		sign string
		told func(a, b int) string
	}{
		{"+", func(a, b int) string { return numberOrRaise(a + b) }},
		{"-", func(a, b int) string { return numberOrRaise(a - b) }},
		{"*", func(a, b int) string { return numberOrRaise(a * b) }},
		{"<", func(a, b int) string { return truthText(a < b) }},
		{"=", func(a, b int) string { return truthText(a == b) }},
	} {
		numbers := []int{0, 1, -1, 2, -2, 7, -7, 999, 1000, 1001, -999, -1000, -1001, 499999, 500000, 500001, -500000, -500001, 999999, -999999, 1000000, -1000000}
		for _, a := range numbers {
			for _, b := range numbers {
				ran(t, "op "+c.sign+" n "+strconv.Itoa(a)+" n "+strconv.Itoa(b), c.told(a, b), 3)
			}
		}
	}
}

func numberOrRaise(n int) string {
	if n > 1000000 || n < -1000000 {
		return "raise -1"
	}
	return strconv.Itoa(n)
}

func truthText(truth bool) string {
	if truth {
		return "t"
	}
	return "u"
}

func TestRunAtTheGreatestNumbers(t *testing.T) {
	ranAll(t, []runCase{
		{"op + n 999999 n 1", "1000000", 3}, {"op + n 1000000 n 1", "raise -1", 3}, {"op + n 1 n 1000000", "raise -1", 3}, {"op + n -999999 n -1", "-1000000", 3}, {"op + n -1000000 n -1", "raise -1", 3},
		{"op - n 999999 n -1", "1000000", 3}, {"op - n 1000000 n -1", "raise -1", 3}, {"op - n -999999 n 1", "-1000000", 3}, {"op - n -1000000 n 1", "raise -1", 3}, {"op - n -1 n 1000000", "raise -1", 3}, {"op - n 0 n 1000000", "-1000000", 3},
		{"op * n 1000 n 1000", "1000000", 3}, {"op * n 1000 n -1000", "-1000000", 3}, {"op * n 1000 n 1001", "raise -1", 3}, {"op * n -1000 n 1001", "raise -1", 3}, {"op * n -1000 n -1001", "raise -1", 3},
		{"op * n 1000000 n 1000000", "raise -1", 3}, {"op * n 1000000 n -1000000", "raise -1", 3}, {"op * n 1000000 n 0", "0", 3}, {"op * n 1000000 n -1", "-1000000", 3}, {"op * n -1000000 n -1", "1000000", 3},
		// what is beyond ends it, also where the whole would not be
		{"op - op + n 1000000 n 1 n 1", "raise -1", 4}, {"op * n 0 op * n 1001 n 1000", "raise -1", 5},
		{"op < op + n 1000000 n 1 n 1", "raise -1", 4}, {"pair n 1 op + n 1000000 n 1", "raise -1", 5},
	})
}

func TestRunFunctions(t *testing.T) {
	ranAll(t, []runCase{
		// handed on
		{"app fn f f i i app v f 0 n 3 fn x i op * v x 0 v x 0", "9", 9},
		{"let on 0 fn f f i i fn x i app v f 0 app v f 0 v x 0 app app v on 0 fn x i op * v x 0 v x 0 n 3", "81", 19},
		{"app fn f f i i pair app v f 0 n 1 app v f 0 n 2 fn x i op + v x 0 n 10", "(11,12)", 16},
		// coming out of functions
		{"app app fn x i fn y i op - v x 0 v y 0 n 10 n 3", "7", 9},
		{"app fn x i fn y i v x 0 n 10", "fn", 4},
		{"let add 0 fn x i fn y i op + v x 0 v y 0 let a 0 app v add 0 n 1 let b 0 app v add 0 n 20 pair app v a 0 n 3 app v b 0 n 3", "(4,23)", 25},
		{"app if u fn x i n 1 fn x i n 2 n 5", "2", 6},
		{"app fst pair fn x i n 1 fn x i n 2 n 5", "1", 7},
		{"app case h r cons fn x i op + v x 0 n 1 nil f i i fn x i n 0 v h 0 n 5", "6", 10},
		{"app app app fn x i fn y i fn z i cons v x 0 cons v y 0 cons v z 0 nil i n 1 n 2 n 3", "[1,2,3]", 16},
		// what was bound where they were made
		{"let x 0 n 1 let f 0 fn y i v x 0 let x 0 n 2 app v f 0 n 3", "1", 10},
		{"let x 0 n 1 let f 0 fn y i op + v x 0 v y 0 let y 0 n 50 let x 0 n 2 app v f 0 v x 0", "3", 14},
		{"app fn f f i i let x 0 n 7 app v f 0 n 0 let x 0 n 4 fn y i v x 0", "4", 11},
		{"let f 0 let x 0 n 4 fn y i v x 0 app v f 0 n 0", "4", 8},
		{"let f 0 case h r cons n 4 nil i fn y i n 0 fn y i v h 0 app v f 0 n 0", "4", 10},
		{"let f 0 try e raise f i i n 4 fn y i v e 0 app v f 0 n 0", "4", 9},
		{"app app fn x i fn x i v x 0 n 1 n 2", "2", 7},
		// one that is called again does not keep what it had
		{"let f 0 fn x i let y 0 op + v x 0 n 1 v y 0 pair app v f 0 n 1 app v f 0 n 5", "(2,6)", 19},
		// a function is not done until it is called, and once for each call
		{"let f 0 fn x i raise i n 1 n 2", "2", 3}, {"let f 0 fn x i raise i v x 0 app v f 0 n 2", "raise 2", 7},
		{"let f 0 fn x i op + v x 0 n 1 n 2", "2", 3}, {"let f 0 fn x i op + v x 0 n 1 app v f 0 app v f 0 n 2", "4", 13},
		// the argument is done once, however often it is read
		{"app fn x i op + v x 0 op + v x 0 v x 0 op * n 2 n 3", "18", 10}, {"app fn x i n 1 op * n 2 n 3", "1", 6},
	})
}

func TestRunFix(t *testing.T) {
	ranAll(t, []runCase{
		{"fix s 0 f i i fn n i if op < v n 0 n 1 n 0 op + v n 0 app v s 0 op - v n 0 n 1 app v s 0 n 0", "0", 9},
		{"fix s 0 f i i fn n i if op < v n 0 n 1 n 0 op + v n 0 app v s 0 op - v n 0 n 1 app v s 0 n 1", "1", 20},
		{"fix s 0 f i i fn n i if op < v n 0 n 1 n 0 op + v n 0 app v s 0 op - v n 0 n 1 app v s 0 n 10", "55", 119},
		// with two calls in one body
		{"fix f 0 f i i fn n i if op < v n 0 n 2 v n 0 op + app v f 0 op - v n 0 n 1 app v f 0 op - v n 0 n 2 app v f 0 n 10", "55", 1769},
		// from within another function
		{"fix s 0 f i i fn n i let on 0 fn k i app v s 0 v k 0 if op < v n 0 n 1 n 0 op + v n 0 app v on 0 op - v n 0 n 1 app v s 0 n 2", "3", 43},
		{"let on 0 fn f f i i app v f 0 n 3 fix s 0 f i i fn n i if op < v n 0 n 1 n 0 op + v n 0 app v s 0 op - v n 0 n 1 app v on 0 v s 0", "6", 47},
		{"app fix s 0 f i i fn n i if op < v n 0 n 1 n 0 op + v n 0 app v s 0 op - v n 0 n 1 v s 0 n 3", "6", 42},
		// a fix within a fix
		{"fix m 0 f i f i i fn a i fn b i fix g 0 f i i fn k i if op < v k 0 n 1 n 0 op + v a 0 app v g 0 op - v k 0 n 1 app v g 0 v b 0 app app v m 0 n 6 n 3", "18", 49},
		{"fix f 0 f i i fn x i op + v x 0 n 1 fix g 0 f i i fn x i app v f 0 app v f 0 v x 0 app v g 0 n 1", "3", 16},
		// its name where it holds, and hidden in its function by the argument
		{"fix f 0 f i i fn f i v f 0 app v f 0 n 3", "3", 5}, {"fix f 0 f i i fn x i n 1 let f 0 n 2 v f 0", "2", 4}, {"fix f 0 f i i fn x i let f 0 n 9 v f 0 app v f 0 n 3", "9", 7},
		{"let f 0 n 1 fix f 0 f i i fn x i v x 0 app v f 0 n 3", "3", 7}, {"let x 0 n 1 fix f 0 f i i fn y i op + v x 0 v y 0 let x 0 n 100 app v f 0 n 3", "4", 11},
		// it is itself, though the name is another where it is called
		{"fix f 0 f i i fn n i if op < v n 0 n 1 n 5 app v f 0 op - v n 0 n 1 let g 0 v f 0 let f 0 fn x i n 0 app v g 0 n 2", "5", 31},
		// lists
		{"fix up 0 f i l i fn n i if op < n 5 v n 0 nil i cons v n 0 app v up 0 op + v n 0 n 1 app v up 0 n 1", "[1,2,3,4,5]", 64},
		{"fix map 2 f f v0 v1 f l v0 l v1 fn f f v0 v1 fn l l v0 case h r v l 0 nil v1 cons app v f 0 v h 0 app app v map 0 v f 0 v r 0 " +
			"app app v map 2 i b fn x i op < v x 0 n 2 cons n 1 cons n 2 nil i", "[t,u]", 44},
		{"fix sum 0 f l i i fn l l i case h r v l 0 n 0 op + v h 0 app v sum 0 v r 0 app v sum 0 cons n 1 cons n 2 nil i", "3", 25},
	})
}

func TestRunNamesThatHide(t *testing.T) {
	ranAll(t, []runCase{
		{"let x 0 n 1 let x 0 n 2 v x 0", "2", 5}, {"let x 0 n 1 let x 0 op + v x 0 n 1 v x 0", "2", 7}, {"let x 0 n 1 pair let x 0 n 2 v x 0 v x 0", "(2,1)", 7}, {"let x 0 n 1 pair v x 0 let x 0 n 2 v x 0", "(1,2)", 7},
		{"app fn x i pair app fn x i v x 0 n 2 v x 0 n 1", "(2,1)", 9},
		{"let h 0 n 1 let r 0 n 2 pair case h r cons n 7 nil i n 0 v h 0 pair v h 0 v r 0", "(7,(1,2))", 13}, {"let h 0 n 1 case h r nil i v h 0 n 5", "1", 5}, {"let h 0 n 1 case r h cons n 7 nil i n 0 v h 0", "[]", 7},
		{"case h r cons n 7 cons n 8 nil i n 0 case h r v r 0 n 0 v h 0", "8", 9}, {"case h r cons n 7 cons n 8 nil i n 0 case a b v r 0 n 0 v h 0", "7", 9},
		{"let e 0 n 1 try e v e 0 n 2", "1", 4}, {"let e 0 n 1 try e raise i v e 0 op + v e 0 n 5", "6", 8}, {"let e 0 n 1 pair try e raise i n 9 v e 0 v e 0", "(9,1)", 8},
		{"try e raise i n 1 try e raise i n 2 v e 0", "2", 7}, {"try e raise i n 1 pair try e raise i n 2 v e 0 v e 0", "(2,1)", 9},
		{"let x.1 0 n 1 let x 0 n 2 v x.1 0", "1", 5},
	})
}

func TestRunTexts(t *testing.T) {
	ranAll(t, []runCase{
		{"pair pair n 1 t pair nil i fn x i v x 0", "((1,t),([],fn))", 7}, {"pair n -1 pair n -2 pair n -3 u", "(-1,(-2,(-3,u)))", 7}, {"pair pair pair n 0 n -1 n 2 n 3", "(((0,-1),2),3)", 7},
		{"cons n -1 cons n 0 cons n 1000000 nil i", "[-1,0,1000000]", 7}, {"cons t cons u nil b", "[t,u]", 5}, {"cons nil i nil l i", "[[]]", 3}, {"cons nil i cons nil i nil l i", "[[],[]]", 5},
		{"cons cons n 1 nil i cons nil i cons cons n 2 cons n 3 nil i nil l i", "[[1],[],[2,3]]", 13}, {"cons pair n 1 t cons pair n 2 u nil p i b", "[(1,t),(2,u)]", 9}, {"cons fn x i n 1 nil f i i", "[fn]", 3},
		{"pair cons n 1 cons n 2 nil i pair cons t nil b nil i", "([1,2],([t],[]))", 11}, {"cons cons cons pair nil i n 1 nil p l i i nil l p l i i nil l l p l i i", "[[[([],1)]]]", 9},
		{"let x 0 cons n 1 nil i pair v x 0 cons n 2 v x 0", "([1],[2,1])", 9}, {"fix f 0 f i i fn x i v x 0 pair v f 0 v f 0", "(fn,fn)", 4},
		// of no type: all that a list has, and all that a pair has
		{"cons n 1 cons t cons nil i cons fn x i n 1 cons pair n 1 u nil i", "[1,t,[],fn,(1,u)]", 13}, {"cons n 1 cons cons n 2 nil i nil b", "[1,[2]]", 7},
	})
}

// Only the part that is taken is done.
func TestRunLeavesTheOthers(t *testing.T) {
	ranAll(t, []runCase{
		{"if t n 1 raise i n 9", "1", 3}, {"if u raise i n 9 n 2", "2", 3}, {"case h r nil i n 1 raise i n 9", "1", 3}, {"case h r cons n 1 nil i raise i n 9 n 2", "2", 5},
		{"try e n 1 raise i n 9", "1", 2}, {"let x 0 raise i n 9 n 1", "raise 9", 3}, {"fst pair n 1 raise i n 9", "raise 9", 5}, {"snd pair raise i n 9 n 1", "raise 9", 4},
		{"fix f 0 f i i fn x i raise i n 9 n 1", "1", 2}, {"app fn x i n 1 raise i n 9", "raise 9", 4}, {"app raise f i i n 8 raise i n 9", "raise 8", 3},
		// from the left to the right
		{"op + raise i n 8 raise i n 9", "raise 8", 3}, {"op + n 1 raise i n 9", "raise 9", 4}, {"pair raise i n 8 raise i n 9", "raise 8", 3}, {"pair n 1 raise i n 9", "raise 9", 4},
		{"cons raise i n 8 raise l i n 9", "raise 8", 3}, {"cons n 1 raise l i n 9", "raise 9", 4}, {"let x 0 raise i n 8 raise i n 9", "raise 8", 3}, {"if raise b n 7 raise i n 8 raise i n 9", "raise 7", 3},
		{"case h r raise l i n 7 raise i n 8 raise i n 9", "raise 7", 3}, {"app fn x i raise i n 7 raise i n 9", "raise 9", 4},
	})
}

// doneParts are texts whose hole is done, with how many steps come ahead of it.
func doneParts() map[string]int {
	return map[string]int{
		"#": 0, "app # n 1": 1, "app fn x i n 1 #": 2, "app fn x i # n 1": 3, "let x 0 # n 1": 1, "let x 0 n 1 #": 2, "fix f 0 f i i fn x i v x 0 #": 1, "fix f 0 f i i fn x i # app v f 0 n 1": 4,
		"if # n 1 n 2": 1, "if t # n 2": 2, "if u n 1 #": 2, "pair # n 1": 1, "pair n 1 #": 2, "fst #": 1, "snd #": 1, "fst pair n 1 #": 3, "cons # nil i": 1, "cons n 1 #": 2,
		"case h r # n 1 n 2": 1, "case h r nil i # n 2": 2, "case h r cons n 1 nil i n 1 #": 4, "op + # n 1": 1, "op = n 1 #": 2, "raise i #": 1,
		"let f 0 fn x i # app v f 0 n 1": 5, "app app fn x i fn y i # n 1 n 2": 6, "let on 0 fn f f i i app v f 0 n 1 app v on 0 fn x i #": 8,
	}
}

func TestRaisesWithinWhatIsTried(t *testing.T) {
	for text, ahead := range doneParts() {
		for raise, number := range map[string]int{"raise i n 5": 5, "raise b n -7": -7, "op + n 1000000 n 1": -1, "fst n 1": -2, "raise i raise i n 6": 6} {
			steps := ahead + map[string]int{"raise i n 5": 2, "raise b n -7": 2, "op + n 1000000 n 1": 3, "fst n 1": 2, "raise i raise i n 6": 3}[raise]
			whole := filled(text, raise)
			told := strconv.Itoa(number)
			ran(t, whole, "raise "+told, steps)
			ran(t, "try e "+whole+" v e 0", told, steps+2)
			ran(t, "try e "+whole+" n 3", "3", steps+2)
			ran(t, "try e "+whole+" op + v e 0 v e 0", strconv.Itoa(2*number), steps+4)
			ran(t, "op + n 1 try e "+whole+" v e 0", strconv.Itoa(number+1), steps+4)
			ran(t, "let f 0 fn x i "+whole+" try e app v f 0 n 0 v e 0", told, steps+7)
			ran(t, "let f 0 fn x i try e "+whole+" v e 0 pair app v f 0 n 0 n 1", "("+told+",1)", steps+9)
			// what is done raises: what is around it catches that, and it itself does not
			ran(t, "try e raise i n 1 "+whole, "raise "+told, steps+3)
			ran(t, "try d try e raise i n 1 "+whole+" v d 0", told, steps+5)
			ran(t, "try e "+whole+" raise i op + v e 0 n 1", "raise "+strconv.Itoa(number+1), steps+5)
			ran(t, "try d try e "+whole+" raise i op + v e 0 n 1 v d 0", strconv.Itoa(number+1), steps+7)
			// a try within a try: the inner one catches it
			ran(t, "try d try e "+whole+" v e 0 n 99", told, steps+3)
			// a try that was left catches nothing any more
			ran(t, "pair try e n 1 n 2 "+whole, "raise "+told, steps+3)
			ran(t, "let f 0 try e fn x i "+whole+" fn x i n 2 app v f 0 n 0", "raise "+told, steps+6)
		}
	}
}

func TestRaisesAtEachDepth(t *testing.T) {
	for depth := range 20 {
		tried := wrapped(func(t impl.Term) impl.Term { return tmOp(1, tmNum(1), t) }, depth, tmRaise(tyInt, tmNum(5)))
		ranTerm(t, tried, isRaise(5), 2*depth+2)
		ranTerm(t, tmTry("e", tried, tmVar("e")), isValue("5"), 2*depth+4)
		around := wrapped(func(t impl.Term) impl.Term { return tmOp(1, tmNum(1), t) }, depth, tmTry("e", tmRaise(tyInt, tmNum(5)), tmVar("e")))
		ranTerm(t, around, isValue(strconv.Itoa(5+depth)), 2*depth+4)
		again := wrapped(func(t impl.Term) impl.Term { return tmTry("e", t, tmRaise(tyInt, tmOp(1, tmVar("e"), tmNum(1)))) }, depth, tmRaise(tyInt, tmNum(5)))
		ranTerm(t, again, isRaise(5+depth), 5*depth+2)
		numbers := wrapped(func(t impl.Term) impl.Term { return tmRaise(tyInt, t) }, depth, tmNum(6))
		end := isRaise(6)
		if depth == 0 {
			end = isValue("6")
		}
		ranTerm(t, numbers, end, depth+1)
	}
}

func TestRaises(t *testing.T) {
	ranAll(t, []runCase{
		{"try e op + n 1 raise i n 5 op * v e 0 n 2", "10", 8}, {"try e op + n 1000000 n 1 v e 0", "-1", 5}, {"try e if n 1 n 2 n 3 v e 0", "-2", 4}, {"try e raise i n 1000000 op + v e 0 n 1", "raise -1", 6},
		{"raise i raise i n 4", "raise 4", 3}, {"raise i op + n 1000000 n 1", "raise -1", 4}, {"try e raise i raise i n 4 v e 0", "4", 5}, {"raise i t", "raise -2", 2}, {"try e raise i nil i v e 0", "-2", 4},
		{"raise i try e raise i n 4 op + v e 0 n 1", "raise 5", 7}, {"try e raise b n 3 op = v e 0 n 3", "t", 6}, {"try e raise l i n 3 cons v e 0 nil i", "[3]", 6}, {"try e raise f i i n 3 fn x i v e 0", "fn", 4},
		{"try e try e try e raise i n 1 raise i op + v e 0 n 1 raise i op * v e 0 n 5 v e 0", "10", 14},
		// the names around are as they were where it is tried
		{"let x 0 n 1 try e let x 0 n 2 raise i v x 0 pair v e 0 v x 0", "(2,1)", 10}, {"let x 0 n 1 try e app fn x i raise i v x 0 n 3 pair v e 0 v x 0", "(3,1)", 11},
		// a function that catches, and calls itself
		{"fix f 0 f i i fn n i if op < v n 0 n 1 raise i n 50 try e app v f 0 op - v n 0 n 1 raise i op + v e 0 n 1 try d app v f 0 n 4 v d 0", "54", 68},
		{"fix f 0 f i i fn n i try e if op < v n 0 n 1 raise i n 0 op + v n 0 app v f 0 op - v n 0 n 1 v e 0 app v f 0 n 10", "55", 132},
		{"fix f 0 f i i fn n i if op < v n 0 n 1 raise i n 50 op + v n 0 app v f 0 op - v n 0 n 1 try d app v f 0 n 10 v d 0", "50", 122},
	})
}

// What is out of fuel is no raise, wherever it is.
func TestOutOfFuelWithinWhatIsTried(t *testing.T) {
	for text, steps := range map[string]int{
		"try e op + n 1 n 2 v e 0": 4, "try e op + n 1 n 2 n 9": 4, "try d try e op + n 1 n 2 n 8 n 9": 5, "try e raise i n 1 op + n 1 n 2": 6, "try d try e raise i n 1 op + n 1 n 2 n 9": 7,
		"let f 0 fn x i try e op + v x 0 n 1 n 9 try d app v f 0 n 2 n 8": 10, "try e app fn x i try d v x 0 n 8 n 1 n 9": 6,
	} {
		term := parsedTerm(t, text)
		for fuel := range steps {
			ranWith(t, term, fuel, isFuel, fuel)
		}
		end, took := asPlain(t, term, impl.MaxFuel)
		if end.End != impl.EndValue || took != steps {
			t.Error("the test's own", text, end, took)
		}
	}
	for _, text := range []string{
		"fix l 0 f i i fn n i app v l 0 v n 0 #", "fix l 0 f i i fn n i op + n 1 app v l 0 v n 0 #", "fix l 0 f i i fn n i try e app v l 0 v n 0 n 5 #", "fix l 0 f i i fn n i try e op + n 1 app v l 0 v n 0 v e 0 #",
		"fix l 0 f i i fn n i try e raise i n 1 app v l 0 v n 0 #", "fix l 0 f i i fn n i try e op + app v l 0 v n 0 n 1 raise i v e 0 #",
	} {
		for _, call := range []string{"app v l 0 n 1", "try e app v l 0 n 1 n 5", "try e try e app v l 0 n 1 n 5 n 6", "try e op + n 1 app v l 0 n 1 raise i n 5"} {
			term := parsedTerm(t, filled(text, call))
			for _, fuel := range []int{0, 1, 2, 3, 5, 10, 100, 1001, 19999, 20000} {
				ranWith(t, term, fuel, isFuel, fuel)
				asPlain(t, term, fuel)
			}
		}
	}
}

// wrongFor are values that a part is not wanted to be, for the kinds of values that it may be.
func wrongFor(kind string) []string {
	all := map[string][]string{
		"number": {"n 1"}, "truth": {"t", "u"}, "function": {"fn x i v x 0"}, "pair": {"pair n 1 n 2"}, "list": {"nil i", "cons n 1 nil i"},
	}
	var wrong []string
	for k, texts := range all {
		if k != kind {
			wrong = append(wrong, texts...)
		}
	}
	return wrong
}

func TestRunWhatIsNotWanted(t *testing.T) {
	for _, c := range []struct {
		text, kind   string
		ahead, parts int
	}{
		{"app # n 1", "function", 1, 1}, {"app # op + n 1 n 2", "function", 1, 3}, {"if # n 1 n 2", "truth", 1, 0}, {"fst #", "pair", 1, 0}, {"snd #", "pair", 1, 0}, {"cons n 1 #", "list", 2, 0}, {"cons nil i #", "list", 2, 0},
		{"case h r # n 1 n 2", "list", 1, 0}, {"op + # n 1", "number", 1, 1}, {"op + n 1 #", "number", 2, 0}, {"op - # n 1", "number", 1, 1}, {"op - n 1 #", "number", 2, 0}, {"op * # n 0", "number", 1, 1}, {"op * n 0 #", "number", 2, 0},
		{"op < # n 1", "number", 1, 1}, {"op < n 1 #", "number", 2, 0}, {"op = # n 1", "number", 1, 1}, {"op = n 1 #", "number", 2, 0}, {"op = # t", "number", 1, 1}, {"raise i #", "number", 1, 0},
	} {
		for _, wrong := range wrongFor(c.kind) {
			text := filled(c.text, wrong)
			steps := c.ahead + plainNodesDone(wrong) + c.parts
			ran(t, text, "raise -2", steps)
			ran(t, "try e "+text+" v e 0", "-2", steps+2)
			ran(t, "let f 0 fn x i "+text+" try e app v f 0 n 0 op * v e 0 v e 0", "4", steps+9)
			ran(t, "pair n 1 "+text, "raise -2", steps+2)
		}
	}
}

// plainNodesDone is how many steps one of the values of wrongFor takes.
func plainNodesDone(text string) int {
	switch {
	case strings.HasPrefix(text, "pair"), strings.HasPrefix(text, "cons"):
		return 3
	}
	return 1
}

// What a term wants is asked where it is needed: behind the parts that come ahead of that.
func TestWhereWhatIsNotWantedComes(t *testing.T) {
	ranAll(t, []runCase{
		{"app n 1 raise i n 9", "raise 9", 4}, {"app raise i n 9 n 1", "raise 9", 3}, {"op + t raise i n 9", "raise 9", 4}, {"op + raise i n 9 t", "raise 9", 3}, {"op = nil i raise i n 9", "raise 9", 4}, {"op < t u", "raise -2", 3},
		{"cons raise i n 9 n 1", "raise 9", 3}, {"cons n 1 raise i n 9", "raise 9", 4}, {"raise i raise i n 9", "raise 9", 3},
		// ahead of what is not needed any more
		{"if n 1 raise i n 9 raise i n 8", "raise -2", 2}, {"case h r n 1 raise i n 9 raise i n 8", "raise -2", 2}, {"case h r pair nil i nil i n 1 n 2", "raise -2", 4}, {"app t n 1", "raise -2", 3},
		// a list is no pair, a truth no number, and what is beyond is so behind what is wanted
		{"fst cons n 1 nil i", "raise -2", 4}, {"snd cons n 1 nil i", "raise -2", 4}, {"case h r pair n 1 nil i n 1 n 2", "raise -2", 4}, {"op + n 1 op + n 1000000 n 1", "raise -1", 5}, {"op + t op + n 1000000 n 1", "raise -1", 5},
		// what nobody wants may be anything
		{"if t n 1 t", "1", 3}, {"let x 0 t pair v x 0 n 1", "(t,1)", 5}, {"app fn x i v x 0 t", "t", 4}, {"fix f 0 i fn x b v x 0 app v f 0 n 1", "1", 5}, {"case h r cons t nil i n 1 v h 0", "t", 5}, {"try e n 1 t", "1", 2},
		{"try e raise i n 1 t", "t", 4}, {"raise b n 1", "raise 1", 2}, {"let x 2 pair n 1 n 2 v x 0", "(1,2)", 5}, {"fn x v1 v x 1 v0", "fn", 1}, {"nil v1", "[]", 1}, {"let x 0 n 1 v x 2 i i", "1", 3},
		{"app fn x i app v x 0 v x 0 fn x i n 4", "4", 7}, {"let p 0 pair n 1 fn x i v x 0 app snd v p 0 fst v p 0", "1", 10},
	})
}

func TestRunWithEachFuel(t *testing.T) {
	for _, c := range []runCase{
		{"n 4", "4", 1}, {"fn x i v x 0", "fn", 1}, {"raise i n 4", "raise 4", 2}, {"op + n 1 n 2", "3", 3}, {"op + n 1000000 n 2", "raise -1", 3}, {"if n 1 n 2 n 3", "raise -2", 2}, {"try e raise i n 5 v e 0", "5", 4},
		{"fix s 0 f i i fn n i if op < v n 0 n 1 n 0 op + v n 0 app v s 0 op - v n 0 n 1 app v s 0 n 10", "55", 119},
	} {
		term := parsedTerm(t, c.text)
		for fuel := range 130 {
			if fuel < c.steps {
				ranWith(t, term, fuel, isFuel, fuel)
			} else {
				ranWith(t, term, fuel, ends(c.told), c.steps)
			}
		}
		ranWith(t, term, impl.MaxFuel, ends(c.told), c.steps)
		for _, fuel := range []int{-1, -2, -20000, math.MinInt, impl.MaxFuel + 1, impl.MaxFuel + 2, 1 << 40, math.MaxInt} {
			ranWith(t, term, fuel, isNothing, 0)
		}
	}
}

// The greatest fuel is enough for as many steps, and for no more.
func TestRunToTheGreatestFuel(t *testing.T) {
	_, less := plainRun(tickled(0, 0), impl.MaxFuel)
	_, more := plainRun(tickled(1, 0), impl.MaxFuel)
	times := (impl.MaxFuel - less) / (more - less)
	wait := impl.MaxFuel - less - times*(more-less)
	for n := range 3 {
		wait := wait + n - 1
		steps := less + times*(more-less) + wait
		if steps != impl.MaxFuel+n-1 {
			t.Fatal("the test's own steps", steps)
		}
		term := tickled(times, wait)
		if !impl.TermOk(term) {
			t.Fatal("the test's own term")
		}
		if steps > impl.MaxFuel {
			ranWith(t, term, impl.MaxFuel, isFuel, impl.MaxFuel)
			continue
		}
		ranTerm(t, term, isValue("7"), steps)
	}
}

// Deep calls within calls, and much that is tried within what is tried.
func TestRunDeep(t *testing.T) {
	for _, text := range []string{
		"fix s 0 f i i fn n i if op < v n 0 n 1 n 0 op + n 1 app v s 0 op - v n 0 n 1 app v s 0 n #",
		"fix s 0 f i i fn n i if op < v n 0 n 1 raise i n 5 op + n 1 app v s 0 op - v n 0 n 1 try e app v s 0 n # v e 0",
		"fix s 0 f i i fn n i try e if op < v n 0 n 1 raise i n 5 op + n 1 app v s 0 op - v n 0 n 1 raise i op + v e 0 n 1 app v s 0 n #",
		"fix s 0 f i i fn n i try e if op < v n 0 n 1 n 5 op + n 1 app v s 0 op - v n 0 n 1 n 0 app v s 0 n #",
		"fix s 0 f i l i fn n i if op < v n 0 n 1 nil i cons v n 0 app v s 0 op - v n 0 n 1 app v s 0 n #",
		"fix s 0 f i f i i fn n i fn x i if op < v n 0 n 1 v x 0 app app v s 0 op - v n 0 n 1 pair v x 0 n 1 app app v s 0 n # n 0",
		"fix s 0 f i f i i fn n i fn x i if op < v n 0 n 1 v x 0 app app v s 0 op - v n 0 n 1 cons v x 0 nil i app app v s 0 n # nil i",
	} {
		for _, n := range []string{"0", "1", "10", "500", "1000", "5000"} {
			asPlain(t, parsedTerm(t, filled(text, n)), impl.MaxFuel)
		}
	}
}

// A long text is told whole: no text that memory can hold is too long.
func TestRunLongTexts(t *testing.T) {
	for _, c := range []struct{ text, begin, ahead, between, behind string }{
		{"pair v x 0 v x 0", "1000000", "(", ",", ")"},
		{"cons v x 0 cons v x 0 nil i", "-1000000", "[", ",", "]"},
		{"cons v x 0 cons v x 0 nil i", "t", "[", ",", "]"},
		{"pair v x 0 v x 0", "fn", "(", ",", ")"},
		{"pair v x 0 v x 0", "[]", "(", ",", ")"},
		{"pair v x 0 cons v x 0 nil i", "u", "(", ",[", "])"},
	} {
		starts := map[string]string{"1000000": "n 1000000", "-1000000": "n -1000000", "t": "t", "u": "u", "fn": "fn x i n 1", "[]": "nil i"}
		text := filled("fix s 0 f i f i i fn n i fn x i if op < v n 0 n 1 v x 0 app app v s 0 op - v n 0 n 1 # app app v s 0 n 23 #", c.text, starts[c.begin])
		want := c.begin
		for range 23 {
			want = c.ahead + want + c.between + want + c.behind
		}
		got := impl.Run(parsedTerm(t, text), impl.MaxFuel)
		if got.End != impl.EndValue || got.N != 0 || got.Text != want {
			t.Error("a long text", text, got.End, got.N, len(got.Text), len(want))
		}
	}
}

// A value may share its parts so often that its text is beyond any memory: that ends, too, and the same way with more fuel.
func TestRunTextsBeyondAllMemory(t *testing.T) {
	for _, text := range []string{
		"fix s 0 f i f i i fn n i fn x i if op < v n 0 n 1 v x 0 app app v s 0 op - v n 0 n 1 pair v x 0 v x 0 app app v s 0 n # n 0",
		"fix s 0 f i f i i fn n i fn x i if op < v n 0 n 1 v x 0 app app v s 0 op - v n 0 n 1 cons v x 0 cons v x 0 nil i app app v s 0 n # n 0",
		"fix s 0 f i f i i fn n i fn x i if op < v n 0 n 1 v x 0 app app v s 0 op - v n 0 n 1 cons v x 0 v x 0 app app v s 0 n # nil i",
	} {
		for n := range 12 {
			asPlain(t, parsedTerm(t, filled(text, strconv.Itoa(n))), impl.MaxFuel)
		}
		for _, n := range []string{"60", "900"} {
			term := parsedTerm(t, filled(text, n))
			_, steps := plainEnd(term, impl.MaxFuel)
			for _, fuel := range []int{100, 10000, impl.MaxFuel - 1, impl.MaxFuel} {
				if got := impl.Run(term, fuel); got != isFuel {
					t.Error("a text without end", n, fuel, got.End, got.N, len(got.Text))
				}
				if took := impl.Steps(term, fuel); took != min(fuel, steps) {
					t.Error("a text without end", n, fuel, took, steps)
				}
			}
		}
	}
}

// A value whose text is beyond any memory may still be a part of what has a short one.
func TestRunShortTextsOfGreatValues(t *testing.T) {
	grow := "let x 0 app app fix s 0 f i f i i fn n i fn x i if op < v n 0 n 1 v x 0 app app v s 0 op - v n 0 n 1 pair v x 0 v x 0 v s 0 n 200 n 0 "
	for text, want := range map[string]string{
		"fst pair n 1 v x 0":                       "1",
		"case a b cons v x 0 nil i n 1 n 2":        "2",
		"case a b cons v x 0 nil i n 1 v b 0":      "[]",
		"let y 0 fst v x 0 fn z i v y 0":           "fn",
		"try e raise i v x 0 v e 0":                "-2",
		"pair fst pair n 4 v x 0 fn z i v x 0":     "(4,fn)",
		"cons n 3 snd pair cons v x 0 nil i nil i": "[3]",
	} {
		asPlain(t, parsedTerm(t, grow+text), impl.MaxFuel)
		if got := impl.Run(parsedTerm(t, grow+text), impl.MaxFuel); got != isValue(want) {
			t.Error(text, got.End, got.N, len(got.Text), want)
		}
	}
}

func TestRunWrongTerms(t *testing.T) {
	for why, term := range wrongTerms() {
		for _, fuel := range []int{-1, 0, 1, 100, impl.MaxFuel, impl.MaxFuel + 1} {
			if end, steps := impl.Run(term, fuel), impl.Steps(term, fuel); end != isNothing || steps != 0 {
				t.Error(why, fuel, end, steps)
			}
		}
	}
}

func TestRunFreeNames(t *testing.T) {
	for _, text := range []string{
		"v x 0", "v x.1 0", "v x 1 i", "fn x i v y 0", "app fn x i v x 0 v x 0", "let x 0 v x 0 n 1", "let x 0 n 1 v y 0", "fix f 0 f i i fn x i v y 0 n 1", "fix f 0 f i i fn x i v f 0 v x 0", "case h r v h 0 n 1 n 2", "case h r nil i v h 0 n 2",
		"case h r nil i v r 0 n 2", "try e v e 0 n 1", "pair let x 0 n 1 v x 0 v x 0", "pair n 1 v abcdefgh 0",
		// where it would not be met
		"if t n 1 v x 0", "if u v x 0 n 1", "fn y i fn z i v x 0", "try e n 1 v x 0", "case h r nil i n 0 v x 0", "op + raise i n 1 v x 0", "let f 0 fn y i v x 0 n 1",
	} {
		for _, fuel := range []int{-1, 0, 1, 100, impl.MaxFuel, impl.MaxFuel + 1} {
			ranWith(t, parsedTerm(t, text), fuel, isNothing, 0)
		}
	}
	for _, c := range kindCases() {
		if c.free != "" {
			ranWith(t, c.term, 1000, isNothing, 0)
		} else {
			asPlain(t, c.term, 1000)
		}
	}
}

func TestSameEnd(t *testing.T) {
	all := []impl.Outcome{
		isNothing, isValue("1"), isValue("2"), isValue(""), isValue("[1]"), isRaise(1), isRaise(2), isRaise(0), isRaise(-1), {End: 4}, {End: -1}, {End: impl.EndValue, N: 1, Text: "1"}, {End: impl.EndRaise, N: 1, Text: "1"}, {N: 1}, {Text: "1"},
		{End: math.MaxInt}, {End: math.MinInt},
	}
	fuels := []impl.Outcome{isFuel, {End: impl.EndFuel, N: 1}, {End: impl.EndFuel, Text: "1"}}
	for i, a := range all {
		for j, b := range all {
			if got := impl.SameEnd(a, b); got != (i == j) {
				t.Error(a, b, got)
			}
		}
		for _, fuel := range fuels {
			if !impl.SameEnd(a, fuel) || !impl.SameEnd(fuel, a) {
				t.Error("one is EndFuel", a, fuel)
			}
		}
	}
	for _, a := range fuels {
		for _, b := range fuels {
			if !impl.SameEnd(a, b) {
				t.Error("both are EndFuel", a, b)
			}
		}
	}
	if !impl.SameEnd(isValue(strings.Repeat("1", 50)), isValue(strings.Repeat("1", 50))) {
		t.Error("the same text, at another place")
	}
}

// Programs by chance, with and without a type, against the test's own.
func TestRunTermsByChance(t *testing.T) {
	met := map[int]int{}
	raised := map[int]int{}
	for _, term := range runTerms(4000) {
		end, _ := asPlain(t, term, 3000)
		met[end.End]++
		if end.End == impl.EndRaise {
			raised[end.N]++
		}
	}
	if met[impl.EndValue] < 3000 || met[impl.EndRaise] < 2000 || met[impl.EndFuel] < 10 || raised[-1] < 10 || raised[-2] < 1000 || len(raised) < 20 {
		t.Error("too few of an end", met, raised)
	}
}

// P4: with more fuel the same comes, or EndFuel was.
func TestMoreFuelEndsTheSame(t *testing.T) {
	for _, term := range runTerms(700) {
		steps := impl.Steps(term, impl.MaxFuel)
		most := impl.Run(term, impl.MaxFuel)
		if most.End < impl.EndValue || most.End > impl.EndFuel || steps < 1 {
			t.Fatal("no end", plainTermText(term), most, steps)
		}
		for _, fuel := range []int{0, 1, 2, 3, 5, 8, 13, 21, 34, 55, 100, 300, steps - 1, steps, impl.MaxFuel} {
			end := impl.Run(term, fuel)
			if !impl.SameEnd(end, most) || (end.End == impl.EndFuel) != (fuel < steps || most == isFuel) {
				t.Error("with more fuel", plainTermText(term), fuel, end, most)
			}
			if got := impl.Steps(term, fuel); got != min(fuel, steps) {
				t.Error("steps", plainTermText(term), fuel, got, steps)
			}
		}
	}
}

// P4: what a program ends with is of the type that TypeOf tells.
func TestRunEndsWithItsType(t *testing.T) {
	values, texts := 0, map[string]bool{}
	for _, term := range append(typedTerms(4000), loopTerms(2000)...) {
		ty, code := impl.TypeOf(term)
		if code != impl.CheckGood {
			continue
		}
		end := impl.Run(term, 3000)
		if plainWrong(term, 3000) > 0 {
			t.Error("a part that is not wanted, in a term that has a type", plainTermText(term))
		}
		if end.End != impl.EndValue {
			continue
		}
		values++
		texts[end.Text] = true
		if !fitsWhole(end.Text, ty) {
			t.Error(plainTermText(term), plainText(ty), end.Text)
		}
	}
	if values < 3000 || len(texts) < 100 {
		t.Error("too few values", values, len(texts))
	}
}

func TestFitsWhole(t *testing.T) {
	for text, tys := range map[string]string{
		"1": "i", "-1": "i", "0": "i", "t": "b", "u": "b", "fn": "f i i", "(1,t)": "p i b", "[]": "l i", "[1,-2]": "l i", "[[],[1]]": "l l i", "([fn,fn],(u,[]))": "p l f i b p b l i",
	} {
		for _, other := range []string{"i", "b", "f i i", "p i b", "l i", "l l i", "p l f i b p b l i", "l b", "p b i"} {
			want := other == tys || text == "[]" && other[0] == 'l'
			if fitsWhole(text, parsed(t, other)) != want {
				t.Error("the test's own", text, other, want)
			}
		}
	}
	for _, text := range []string{"", "01", "-0", "-", "1000001", "1,", "[1", "[1,]", "[,1]", "1]", "(1,t", "tt", "[1 ,2]", "fnfn"} {
		for _, ty := range []string{"i", "b", "f i i", "p i b", "l i"} {
			if fitsWhole(text, parsed(t, ty)) {
				t.Error("the test's own", text, ty)
			}
		}
	}
}

func TestRunArgumentsStay(t *testing.T) {
	all := runTerms(150)
	for _, c := range kindCases() {
		all = append(all, c.term)
	}
	for _, term := range wrongFields() {
		all = append(all, term)
	}
	for _, term := range all {
		roomy := roomyTerm(term)
		kept := fullTerm(roomy)
		impl.Run(roomy, 1000)
		impl.Steps(roomy, 1000)
		impl.Run(roomy, 3)
		impl.Run(roomy, -1)
		if !reflect.DeepEqual(fullTerm(roomy), kept) {
			t.Fatal("an argument was written to", term)
		}
	}
}

// What lies behind a list's length is not there.
func TestRunSpareRoomIsNotRead(t *testing.T) {
	for _, term := range runTerms(150) {
		end, steps := plainRun(term, 1000)
		ranWith(t, roomyTerm(term), 1000, end, steps)
	}
}

// Nothing is kept from one call to another.
func TestRunKeepsNothing(t *testing.T) {
	all := runTerms(60)
	first := map[int]impl.Outcome{}
	for i, term := range all {
		first[i] = impl.Run(term, 500)
	}
	for i := len(all) - 1; i >= 0; i-- {
		impl.Run(all[i], 7)
		if got := impl.Run(all[i], 500); got != first[i] {
			t.Error("another end", plainTermText(all[i]), got, first[i])
		}
	}
}
