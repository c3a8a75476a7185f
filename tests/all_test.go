package tests

import (
	"fmt"
	"math"
	"math/rand"
	"slices"
	"strconv"
	"strings"
	"testing"
	"unsafe"

	"loop.example/g00187/impl"
)

func TestAllConstants(t *testing.T) {
	if impl.AllGood != 0 || impl.AllText != 1 || impl.AllType != 2 || impl.AllMany != 3 || impl.AllBig != 4 {
		t.Error(impl.AllGood, impl.AllText, impl.AllType, impl.AllMany, impl.AllBig)
	}
}

func TestCompileOfEachKind(t *testing.T) {
	compiledAll(t, []allCase{
		{"n 5", "5", "1 1 0 2 1", "main 1: num 0 5; ret 0"},
		{"n -1000000", "-1000000", "1 1 0 2 1", "main 1: num 0 -1000000; ret 0"},
		{"t", "t", "1 1 0 2 1", "main 1: bool 0 1; ret 0"},
		{"u", "u", "1 1 0 2 1", "main 1: bool 0 0; ret 0"},
		{"nil i", "[]", "1 1 0 2 1", "main 1: nil 0; ret 0"},
		{"cons n 1 nil i", "[1]", "3 3 0 4 2", "main 2: num 0 1; nil 1; cons 0 0 1; ret 0"},
		{"op + n 1 n 2", "3", "3 1 0 2 1", "main 1: num 0 3; ret 0"},
		{"op < n 1 n 2", "t", "3 1 0 2 1", "main 1: bool 0 1; ret 0"},
		{"op + n 1000000 n 1", "raise -1", "3 3 0 4 2", "main 2: num 0 1000000; num 1 1; add 0 0 1; ret 0"},
		{"op * n 1000000 n -2", "raise -1", "3 3 0 4 2", "main 2: num 0 1000000; num 1 -2; mul 0 0 1; ret 0"},
		{"op = n 3 raise i n 4", "raise 4", "4 4 0 4 2", "main 2: num 0 3; num 0 4; raise 0; ret 0"},
		{"let x 0 n 7 v x 0", "7", "3 3 0 2 1", "main 1: num 0 7; ret 0"},
		{"let x 0 n 7 op - v x 0 v x 0", "0", "5 5 0 3 1", "main 1: num 0 7; sub 0 0 0; ret 0"},
		{"let x 0 op + n 1000000 n 1 n 7", "raise -1", "5 5 0 5 2", "main 2: num 0 1000000; num 1 1; add 0 0 1; num 0 7; ret 0"},
		{"app fn x i v x 0 n 3", "3", "4 4 1 5 3", "fun 1 1 1: ret 0 | main 2: make 0 1; num 1 3; call 0 0 1 1; ret 0"},
		{"app fn x i op * v x 0 v x 0 n 3", "9", "6 6 1 6 3", "fun 1 1 1: mul 0 0 0; ret 0 | main 2: make 0 1; num 1 3; call 0 0 1 1; ret 0"},
		{"fix f 0 f i i fn x i n 1 n 2", "2", "4 4 1 5 2", "fun 1 1 1: num 0 1; ret 0 | main 1: make 0 1; num 0 2; ret 0"},
		{"if t n 3 n 4", "3", "4 1 0 2 1", "main 1: num 0 3; ret 0"},
		{"let b 0 t if v b 0 n 3 n 4", "3", "6 6 0 6 1", "main 1: bool 0 1; ifnot 0 4; num 0 3; jump 5; num 0 4; ret 0"},
		{"if op < raise i n 9 n 2 n 3 n 4", "raise 9", "7 7 0 3 2", "main 2: num 0 9; raise 0; ret 0"},
		{"fst pair n 1 n 2", "1", "4 1 0 2 1", "main 1: num 0 1; ret 0"},
		{"let p 0 pair n 1 t fst v p 0", "1", "6 6 0 5 2", "main 2: num 0 1; bool 1 1; pair 0 0 1; first 0 0; ret 0"},
		{"let p 0 pair n 1 t snd v p 0", "t", "6 6 0 5 2", "main 2: num 0 1; bool 1 1; pair 0 0 1; second 0 0; ret 0"},
		{"case h r nil i n 1 v h 0", "1", "4 1 0 2 1", "main 1: num 0 1; ret 0"},
		{"case h r cons n 4 nil i n 0 v h 0", "4", "6 6 0 10 2", "main 2: num 0 4; nil 1; cons 0 0 1; ifnil 0 8; first 1 0; second 0 0; move 0 1; jump 9; num 0 0; ret 0"},
		{"case h r cons n 4 nil i nil i v r 0", "[]", "6 6 0 9 2", "main 2: num 0 4; nil 1; cons 0 0 1; ifnil 0 7; first 1 0; second 0 0; jump 8; nil 0; ret 0"},
		{"raise i n 6", "raise 6", "2 2 0 3 1", "main 1: num 0 6; raise 0; ret 0"},
		{"raise b op + n 1 n 2", "raise 3", "4 2 0 3 1", "main 1: num 0 3; raise 0; ret 0"},
		{"try e n 1 v e 0", "1", "3 1 0 2 1", "main 1: num 0 1; ret 0"},
		{"try e raise i n 4 op + v e 0 n 1", "5", "6 6 0 7 2", "main 2: try 0 4; num 0 4; raise 0; end; num 1 1; add 0 0 1; ret 0"},
		// trimmed once: the OpJump over what is gone is left
		{"try e op + n 1000000 n 1 v e 0", "-1", "5 5 0 8 2", "main 2: try 0 7; num 0 1000000; num 1 1; add 1 0 1; end; move 0 1; jump 7; ret 0"},
	})
}

func TestCompileOfInstances(t *testing.T) {
	compiledAll(t, []allCase{
		{"let id 1 fn x v0 v x 0 n 3", "3", "4 1 0 2 1", "main 1: num 0 3; ret 0"},
		{"let id 1 fn x v0 v x 0 app v id 1 i n 1", "1", "6 6 1 5 3", "fun 1 1 1: ret 0 | main 2: make 0 1; num 1 1; call 0 0 1 1; ret 0"},
		{"let id 1 fn x v0 v x 0 if app v id 1 b t app v id 1 i n 1 n 2", "1", "11 14 2 12 5",
			"fun 1 1 1: ret 0 | fun 4 1 1: ret 0 | main 3: make 0 1; make 1 4; bool 2 1; call 0 0 2 1; ifnot 0 8; num 0 1; call 0 1 0 4; jump 9; num 0 2; ret 0"},
		{"let id 1 fn x v0 v x 0 app app v id 1 f i i v id 1 i n 4", "4", "8 11 2 8 4", "fun 1 1 1: ret 0 | fun 4 1 1: ret 0 | main 2: make 0 1; make 1 4; call 0 0 1 1; num 1 4; call 0 0 1 4; ret 0"},
		{"let k 2 fn x v0 fn y v1 v x 0 app app v k 2 i b n 1 t", "1", "9 9 2 9 5", "fun 1 1 1: make 0 2 0; ret 0 | fun 2 2 2: ret 0 | main 2: make 0 1; num 1 1; call 0 0 1 1; bool 1 1; call 0 0 1 2; ret 0"},
		{"let c 1 n 4 op + v c 1 i v c 1 b", "8", "5 7 0 4 2", "main 2: num 0 4; num 1 4; add 0 0 1; ret 0"},
		{"let c 2 nil p v0 v1 case h r v c 2 i b op + n 3 n 4 fst v h 0", "7", "9 7 0 8 2", "main 2: nil 0; ifnil 0 6; first 1 0; second 0 0; first 0 1; jump 7; num 0 7; ret 0"},
		{"fix n 1 f l v0 i fn l l v0 case h r v l 0 n 0 op + n 1 app v n 0 v r 0 op + app v n 1 i cons n 7 nil i app v n 1 b nil b", "1", "19 29 2 30 10",
			"fun 1 1 3: ifnil 0 8; first 1 0; second 0 0; num 1 1; make 2 1; call 0 2 0 1; add 0 1 0; jump 9; num 0 0; ret 0 | fun 11 1 3: ifnil 0 8; first 1 0; second 0 0; num 1 1; make 2 11; call 0 2 0 11; add 0 1 0; jump 9; num 0 0; ret 0 | main 4: make 0 1; make 1 11; num 2 7; nil 3; cons 2 2 3; call 0 0 2 1; nil 2; call 1 1 2 11; add 0 0 1; ret 0"},
		{"fix r 1 f l v0 f l v0 l v0 fn a l v0 fn b l v0 case h t v a 0 v b 0 app app v r 0 v t 0 cons v h 0 v b 0 app app v r 1 i cons n 1 cons n 2 nil i nil i", "[2,1]", "22 22 2 22 9",
			"fun 1 1 1: make 0 2 0; ret 0 | fun 2 2 4: ifnil 0 8; first 2 0; second 0 0; make 3 1; call 0 3 0 1; cons 1 2 1; call 0 0 1 2; jump 9; move 0 1; ret 0 | main 4: make 0 1; num 1 1; num 2 2; nil 3; cons 2 2 3; cons 1 1 2; call 0 0 1 1; nil 1; call 0 0 1 2; ret 0"},
		// a copy that only a part needs that is left out is folded away, too
		{"let id 1 fn x v0 v x 0 if t app v id 1 i n 1 n 2", "1", "9 6 1 5 3", "fun 1 1 1: ret 0 | main 2: make 0 1; num 1 1; call 0 0 1 1; ret 0"},
		{"let id 1 fn x v0 v x 0 if t n 2 app v id 1 i n 1", "2", "9 1 0 2 1", "main 1: num 0 2; ret 0"},
		{"let id 1 fn x v0 v x 0 if u app v id 1 b t op = app v id 1 i n 1 n 1", "t", "13 8 1 7 3", "fun 1 1 1: ret 0 | main 2: make 0 1; num 1 1; call 0 0 1 1; num 1 1; same 0 0 1; ret 0"},
		// the type of the list, which stands nowhere, comes out too big
		{"let f 1 fn x i let y 0 nil l v0 v x 0 app v f 1 l l l l i n 1", "1", "8 6 1 5 3", "fun 1 1 1: ret 0 | main 2: make 0 1; num 1 1; call 0 0 1 1; ret 0"},
	})
}

func TestCompileOfFunctionsWithinFunctions(t *testing.T) {
	compiledAll(t, []allCase{
		{"let k 0 fn x i fn y i op - v x 0 v y 0 app app v k 0 n 9 n 4", "5", "11 11 2 10 5", "fun 1 1 1: make 0 2 0; ret 0 | fun 2 2 2: sub 0 0 1; ret 0 | main 2: make 0 1; num 1 9; call 0 0 1 1; num 1 4; call 0 0 1 2; ret 0"},
		{"let k 0 fn x i fn y i fn z i op - v x 0 op - v y 0 v z 0 app app app v k 0 n 9 n 4 n 1", "6", "16 16 3 15 8",
			"fun 1 1 1: make 0 2 0; ret 0 | fun 2 2 2: make 0 3 0 1; ret 0 | fun 3 3 3: sub 1 1 2; sub 0 0 1; ret 0 | main 2: make 0 1; num 1 9; call 0 0 1 1; num 1 4; call 0 0 1 2; num 1 1; call 0 0 1 3; ret 0"},
		{"app fn x p i b snd v x 0 pair op + n 1 n 2 op < n 1 n 2", "t", "11 7 1 8 4", "fun 1 1 1: second 0 0; ret 0 | main 3: make 0 1; num 1 3; bool 2 1; pair 1 1 2; call 0 0 1 1; ret 0"},
		{"fix f 0 f i i fn x i if op < v x 0 n 1 n 0 op + v x 0 app v f 0 op - v x 0 n 1 app v f 0 n 3", "6", "17 17 1 15 5",
			"fun 1 1 3: num 1 1; less 1 0 1; ifnot 1 5; num 0 0; jump 10; make 1 1; num 2 1; sub 2 0 2; call 1 1 2 1; add 0 0 1; ret 0 | main 2: make 0 1; num 1 3; call 0 0 1 1; ret 0"},
		{"fix f 0 f i i fn x i app v f 0 v x 0 app v f 0 n 3", "fuel", "8 8 1 7 4", "fun 1 1 2: make 1 1; call 0 1 0 1; ret 0 | main 2: make 0 1; num 1 3; call 0 0 1 1; ret 0"},
		{"let a 0 n 2 fix f 0 f i i fn x i let g 0 fn y i op * v y 0 v a 0 if op < n 9 v x 0 v x 0 app v f 0 app v g 0 v x 0 app v f 0 n 3", "12", "22 22 2 17 8",
			"fun 3 2 4: make 2 5 0; num 3 9; less 3 3 1; ifnot 3 6; move 0 1; jump 9; make 0 3 0; call 1 2 1 5; call 0 0 1 3; ret 0 | fun 5 2 2: mul 0 1 0; ret 0 | main 2: num 0 2; make 0 3 0; num 1 3; call 0 0 1 3; ret 0"},
		// which function it is, is known by folding, or by the flow
		{"let g 0 if op < n 1 n 2 fn x i v x 0 fn y i op + v y 0 n 1 app v g 0 n 5", "5", "14 6 1 5 3", "fun 1 1 1: ret 0 | main 2: make 0 1; num 1 5; call 0 0 1 1; ret 0"},
		{"let b 0 t let g 0 if v b 0 fn x i v x 0 fn y i op + v y 0 n 1 app v g 0 n 5", "5", "14 14 2 12 5",
			"fun 5 1 1: ret 0 | fun 7 1 2: num 1 1; add 0 0 1; ret 0 | main 2: bool 0 1; ifnot 0 4; make 0 5; jump 5; make 0 7; num 1 5; call 0 0 1 5 7; ret 0"},
		{"let p 0 pair fn x i v x 0 n 8 app fst v p 0 snd v p 0", "8", "10 10 1 8 3", "fun 2 1 1: ret 0 | main 2: make 0 2; num 1 8; pair 0 0 1; first 1 0; second 0 0; call 0 1 0 2; ret 0"},
		{"let l 0 cons fn x i op + v x 0 n 1 nil f i i case h r v l 0 n 0 app v h 0 n 5", "6", "13 13 1 14 4",
			"fun 2 1 2: num 1 1; add 0 0 1; ret 0 | main 2: make 0 2; nil 1; cons 0 0 1; ifnil 0 9; first 1 0; second 0 0; num 0 5; call 0 1 0 2; jump 10; num 0 0; ret 0"},
	})
}

func TestCompileOfRaisesAndLists(t *testing.T) {
	compiledAll(t, []allCase{
		{"let x 0 fst pair n 1 raise i n 3 v x 0", "raise 3", "7 7 0 4 2", "main 2: num 0 1; num 0 3; raise 0; ret 0"},
		{"try e if t raise i n 3 n 4 let q 0 n 5 v e 0", "3", "9 4 0 5 1", "main 1: try 0 4; num 0 3; raise 0; end; ret 0"},
		{"let a 0 n 5 try e app fn x i raise i op + v x 0 v a 0 n 1 v e 0", "6", "11 11 1 12 4",
			"fun 4 2 2: add 0 1 0; raise 0; ret 0 | main 2: num 0 5; try 0 8; make 0 4 0; num 1 1; call 1 0 1 4; end; move 0 1; jump 8; ret 0"},
		{"fix f 0 f i i fn x i try e if op < v x 0 n 1 raise i n 9 app v f 0 op - v x 0 n 1 raise i op + v e 0 n 1 app v f 0 n 2", "raise 12", "21 21 1 21 5",
			"fun 1 1 3: try 0 13; num 1 1; less 1 0 1; ifnot 1 6; num 0 9; raise 0; make 1 1; num 2 1; sub 2 0 2; call 1 1 2 1; move 0 1; end; jump 16; num 1 1; add 0 0 1; raise 0; ret 0 | main 2: make 0 1; num 1 2; call 0 0 1 1; ret 0"},
		{"case h r cons n 4 cons n 5 nil i n 0 op - v h 0 case g s v r 0 n 9 v g 0", "-1", "13 13 0 18 3",
			"main 3: num 0 4; num 1 5; nil 2; cons 1 1 2; cons 0 0 1; ifnil 0 16; first 1 0; second 0 0; ifnil 0 13; first 2 0; second 0 0; move 0 2; jump 14; num 0 9; sub 0 1 0; jump 17; num 0 0; ret 0"},
		{"fix m 0 f f i i f l i l i fn f f i i fn l l i case h r v l 0 nil i cons app v f 0 v h 0 app app v m 0 v f 0 v r 0 let k 0 n 7 app app v m 0 fn z i op * v z 0 v k 0 cons n 1 cons n 2 nil i", "[7,14]", "29 29 3 26 11",
			"fun 1 1 1: make 0 2 0; ret 0 | fun 2 2 4: ifnil 1 9; first 2 1; second 1 1; call 2 0 2 20; make 3 1; call 0 3 0 1; call 0 0 1 2; cons 0 2 0; jump 10; nil 0; ret 0 | fun 20 2 2: mul 0 1 0; ret 0 | main 4: make 0 1; num 1 7; make 1 20 1; call 0 0 1 1; num 1 1; num 2 2; nil 3; cons 2 2 3; cons 1 1 2; call 0 0 1 2; ret 0"},
	})
}

// goodTexts are programs of all sorts, each a good one.
func goodTexts() []string {
	return []string{
		"n 5", "op + n 1 n 2", "let x 0 n 7 op - v x 0 v x 0", "let id 1 fn x v0 v x 0 if app v id 1 b t app v id 1 i n 1 n 2", "try e raise i n 4 op + v e 0 n 1", "case h r cons n 4 nil i nil i v r 0",
		"let p 0 pair n 1 t snd v p 0", "fix n 1 f l v0 i fn l l v0 case h r v l 0 n 0 op + n 1 app v n 0 v r 0 op + app v n 1 i cons n 7 nil i app v n 1 b nil b", groups("c", 10, 10, 10), countedDown(4),
		"let a 0 n 2 fix f 0 f i i fn x i let g 0 fn y i op * v y 0 v a 0 if op < n 9 v x 0 v x 0 app v f 0 app v g 0 v x 0 app v f 0 n 3",
	}
}

func TestCompileOfNoText(t *testing.T) {
	for _, text := range []string{
		"", " ", "  ", "\n", "\x00", "x", "what", "n", "v x", "fn x i", "let x 0 n 1", "n 1 n 2", "n 01", "n -0", "n 1000001", "n 1e3", "N 1", "op + n 1", "op ++ n 1 n 2", "op x n 1 n 2", "raise v2 n 1", "nil", "let x 3 n 1 n 2", "let X 0 n 1 n 2", "let namestoolong 0 n 1 n 2", "v x 3 i i i",
		"fix f 0 f i i n 1 n 2", "case h h nil i n 1 n 2", "nil l l l l l l i", "\xff", "n \xff", "é", "let é 0 n 1 n 2", "n 1\n", "\tn 1", "n\t1", strings.Repeat("n 1 ", 100000), strings.Repeat(" ", 100000), strings.Repeat("fst ", 100000) + "n 1",
		plainTermText(termOfNodes(151)), plainTermText(wrapped(func(t impl.Term) impl.Term { return tmRaise(tyInt, t) }, 24, tmNum(1))),
	} {
		notCompiled(t, text, impl.AllText)
	}
	for _, text := range goodTexts() {
		compiles(t, text)
		for _, wrong := range []string{text + " ", " " + text, strings.Replace(text, " ", "  ", 1), strings.Replace(text, " ", "\n", 1), text + " n", text + " n 1", text + "\x00", "n 1 " + text, strings.ToUpper(text), text + text, text + " " + text} {
			notCompiled(t, wrong, impl.AllText)
		}
		tokens := strings.Split(text, " ")
		for at := range tokens {
			notCompiled(t, strings.Join(tokens[:at], " "), impl.AllText)
			notCompiled(t, strings.Join(tokens[:at], " ")+" ", impl.AllText)
			if at > 0 {
				notCompiled(t, strings.Join(tokens[:at], " ")+"  "+strings.Join(tokens[at:], " "), impl.AllText)
			}
		}
	}
}

// A term, but none that is a program.
func TestCompileOfNoProgram(t *testing.T) {
	for _, text := range []string{
		// a type that a program may not have
		"pair n 1 n 2", "fn x i v x 0", "nil b", "nil l i", "nil p i i", "nil f i i", "cons t nil b", "pair nil i n 1", "raise p i i n 1", "raise f i i n 1", "raise l b n 1", "raise l l i n 1", "let id 1 fn x v0 v x 0 v id 1 i", "fix f 0 f i i fn x i v x 0 v f 0", "snd pair n 1 pair n 1 n 2", "if t fn x i v x 0 fn y i v y 0", "app fn x i nil b n 1",
		// no type
		"app n 1 n 2", "op + n 1 t", "if n 1 n 2 n 3", "if t n 1 u", "fst n 1", "snd nil i", "cons n 1 n 2", "cons t nil i", "case h r n 1 n 2 n 3", "case h r nil i n 1 t", "raise i t", "try e n 1 t", "app fn x b v x 0 n 1", "fix f 0 f i b fn x i v x 0 n 1", "let x 0 n 1 v x 1 i", "let id 1 fn x v0 v x 0 app v id 0 n 1",
		"nil v0", "raise v0 n 1", "let c 1 op + n 1 n 2 v c 1 i", "let a 1 fn x v0 let b 1 n 1 n 2 n 3",
		// a free name
		"v x 0", "v x 1 i", "let x 0 v x 0 n 1", "op + n 1 v nobody 0", "try e v e 0 n 1", "app fn x i v y 0 n 1", "case h r nil i v h 0 n 1",
		// a name that is not plain
		"let x.1 0 n 1 n 2", "let x. 0 n 1 v x. 0", "app fn x.0 i v x.0 0 n 1", "try e.1 n 1 n 2", "case h.1 r nil i n 1 n 2", "case h r.1 nil i n 1 n 2", "fix f.0 0 f i i fn x i v x 0 n 1", "let id.0 0 fn x i v x 0 app v id.0 0 n 1",
	} {
		notCompiled(t, text, impl.AllType)
	}
	for _, hole := range notPrograms() {
		for _, inner := range goodTexts() {
			if text := filled(hole, inner); impl.TermOk(parsedTerm(t, text)) {
				notCompiled(t, text, impl.AllType)
			}
		}
	}
	types := 0
	for _, term := range typedTerms(800) {
		if !impl.Program(term) {
			types++
			notCompiled(t, plainTermText(term), impl.AllType)
		}
	}
	if types < 300 {
		t.Error("too few", types)
	}
}

// MaxCopies copies, and one more.
func TestCompileOfManyCopies(t *testing.T) {
	for text, copies := range map[string]int{
		groups("c", 10, 10, 9): 29, groups("c", 10, 10, 10): 30, groups("c", 10, 10, 11): 31, groups("c", 16, 16): 32, groups("c", 15, 15): 30, groups("c", 15, 16): 31, groups("c", 6, 6, 6, 6, 6): 30, groups("c", 6, 6, 6, 6, 7): 31,
		// parts that are left out later count
		"if t n 1 " + groups("c", 10, 10, 10): 30, "if t n 1 " + groups("c", 10, 10, 11): 31, "if t n 1 op + " + groups("c", 10, 10, 11) + " raise i n 1": 31,
		"fst pair n 1 fn x i " + groups("c", 10, 10, 11): 31, "case h r nil i n 1 " + groups("c", 10, 10, 11): 31,
	} {
		if copies > impl.MaxCopies {
			notCompiled(t, text, impl.AllMany)
		} else if compiles(t, text); impl.Copies(parsedTerm(t, text)) != copies {
			t.Error("the test's own", text, copies)
		}
	}
}

// What gets too big by copying, and what just does not.
func TestCompileOfBigNames(t *testing.T) {
	notCompiled(t, "let longname 1 fn x v0 v x 0 app v longname 1 i n 1", impl.AllBig)
	for size := 1; size <= 8; size++ {
		name := "abcdefgh"[:size]
		for ahead, most := range map[int]int{0: 6, 9: 6, 10: 5, 29: 5} {
			text := "let " + name + " 1 n 1 v " + name + " 1 i"
			if ahead > 0 {
				third := ahead / 3
				text = "op + " + groups("c", third, third, ahead-2*third) + " " + text
			}
			if size > most {
				notCompiled(t, text, impl.AllBig)
			} else {
				compiles(t, text)
			}
		}
		for _, binding := range []string{"let # 1 fn x v0 v x 0 ", "fix # 1 f v0 v0 fn x v0 v x 0 "} {
			for _, hole := range []string{"app v # 1 i n 1", "if t n 1 app v # 1 i n 1", "if u app v # 1 i n 1 n 2", "let q 0 v # 1 b n 3", "fst pair n 1 v # 1 i", "case h r nil i n 4 app v # 1 i v h 0", "try e n 1 app v # 1 i v e 0"} {
				// folded away, but copied ahead of that
				if text := filledAll(binding+hole, name); size > 6 {
					notCompiled(t, text, impl.AllBig)
				} else {
					compiles(t, text)
				}
			}
			// no copy, no name
			compiles(t, filledAll(binding+"n 1", name))
		}
		compiles(t, filledAll("let # 0 n 1 let c 1 fn y i v # 0 app v c 1 i n 2", name))
		compiles(t, filledAll("let c 1 fn # v0 v # 0 app v c 1 i n 2", name))
		compiles(t, filledAll("fix # 0 f i i fn x i v x 0 app v # 0 n 2", name))
	}
	// the last of many names, and one that only a copy has
	notCompiled(t, "let sevenby 1 n 1 op + n 1 v sevenby 1 i", impl.AllBig)
	notCompiled(t, "let sevenby 1 n 1 let b 1 v sevenby 1 v0 v b 1 i", impl.AllBig)
	notCompiled(t, "op + "+groups("sixbyt", 5)+" "+groups("sixbyt", 6), impl.AllBig)
	compiles(t, "op + "+groups("sixbyt", 5)+" "+groups("sixbyt", 5))
}

func TestCompileOfBigTerms(t *testing.T) {
	for more := -3; more <= 3; more++ {
		for _, binding := range []string{"let f 1 fn x v0 #", "fix f 1 f v0 i fn x v0 #"} {
			for _, hole := range []string{"op + % op + app v f 1 i n 1 app v f 1 b t", "if t op + app v f 1 i n 1 app v f 1 b t %"} {
				nodes := 18
				if strings.HasPrefix(hole, "if") {
					nodes--
				}
				fn := filled(binding, plainTermText(sumOfNodes(60)))
				text := fn + " " + strings.Replace(hole, "%", plainTermText(sumOfNodes(nodes+more)), 1)
				if more > 0 {
					notCompiled(t, text, impl.AllBig)
				} else if w := compiles(t, text); plainNodes(w.mono) != 150+more {
					t.Error("the test's own", plainNodes(w.mono), more)
				}
			}
		}
	}
	for copies := 2; copies <= 5; copies++ {
		for depth := 23; depth <= 25; depth++ {
			deep := strings.Repeat("raise i ", depth-copies-2) + "n 1"
			for _, text := range []string{"let c 1 n 1 op + " + usedAt("c", copies) + " " + deep, "let c 1 fn x i " + deep + " " + usedAs("app v c 1 # n 1", copies), "fix c 1 f i i fn x i " + deep + " " + usedAs("app v c 1 # n 1", copies)} {
				if depth > 24 {
					notCompiled(t, text, impl.AllBig)
				} else if w := compiles(t, text); plainDepth(w.mono) != depth {
					t.Error("the test's own", plainDepth(w.mono), depth)
				}
			}
		}
	}
	for n := range 6 {
		lists := strings.Repeat("l ", n)
		for hole, most := range map[string]int{
			"let f 1 fn x i let y 0 raise l l v0 n 1 v x 0 app v f 1 #i n 1": 3, "let a 1 n 1 let b 1 v a 1 l v0 v b 1 #i": 4, "let f 1 fn x i fix g 0 f v0 i fn z v0 n 1 v x 0 app v f 1 #i n 1": 4, "let f 1 fn x i let y 0 nil l v0 v x 0 app v f 1 #i n 1": 4,
		} {
			if text := filled(hole, lists); n > most {
				notCompiled(t, text, impl.AllBig)
			} else {
				compiles(t, text)
			}
		}
	}
}

// Where several hold, it is the one of the first step.
func TestCompileTellsTheFirst(t *testing.T) {
	many, big := groups("c", 10, 10, 11), groups("longname", 3)
	both := groups("longname", 10, 10, 11)
	// too many, and too big in each way
	for _, text := range []string{many, both, groups("sevenby", 31), groups("c", 31), "op + " + big + " " + groups("c", 15, 15), "op + " + groups("c", 15, 15) + " " + big, "op + let a 1 n 1 let b 1 v a 1 l v0 v b 1 l l l l l i " + groups("c", 15, 15)} {
		notCompiled(t, text, impl.AllMany)
	}
	for _, text := range []string{big, groups("longname", 10, 10, 10), groups("c", 30), "op + " + big + " " + groups("c", 15, 12), "op + let a 1 n 1 let b 1 v a 1 l v0 v b 1 l l l l l i " + groups("c", 15, 14)} {
		notCompiled(t, text, impl.AllBig)
	}
	for _, inner := range []string{"n 1", many, big, both} {
		for _, hole := range notPrograms() {
			notCompiled(t, filled(hole, inner), impl.AllType)
			notCompiled(t, filled(hole, inner)+" ", impl.AllText)
			notCompiled(t, " "+filled(hole, inner), impl.AllText)
			notCompiled(t, strings.TrimSuffix(filled("let z 0 "+hole+" nil i", inner), " i"), impl.AllText)
		}
		for _, wrong := range []string{inner + " ", inner + " n 1", "op + n 1000001 " + inner, "let longnames 0 n 1 " + inner, "op + " + inner} {
			notCompiled(t, wrong, impl.AllText)
		}
	}
}

// Each step has its say: without it, or in another order, other code would come for some of these.
func TestCompileTakesEachStep(t *testing.T) {
	t.Parallel()
	unfolded, unpacked, untrimmed, later, again, grown := 0, 0, 0, 0, 0, 0
	for _, text := range allTexts(400) {
		w := plainWorkOn(text)
		if w.why != 0 {
			continue
		}
		c, why := impl.Compile(text)
		if why != impl.AllGood || !equalCodes(c, w.code) {
			t.Errorf("%s: %d and\n%s, not\n%s", text, why, codeText(c), codeText(w.code))
		}
		count := func(n *int, other impl.Code) {
			if !equalCodes(other, c) {
				*n++
			}
		}
		count(&unfolded, plainTrimAll(plainPackAll(plainLower(plainDefun(plainUnlike(w.mono))))))
		count(&unpacked, plainTrimAll(w.lowered))
		count(&untrimmed, w.packed)
		count(&later, plainPackAll(plainTrimAll(w.lowered)))
		count(&again, plainTrimAll(w.code))
		if plainNodes(w.mono) > plainNodes(w.read) {
			grown++
		}
	}
	if unfolded < 400 || unpacked < 400 || untrimmed < 400 || later < 400 || again < 50 || grown < 50 {
		t.Error("too few", unfolded, unpacked, untrimmed, later, again, grown)
	}
}

// casesWithin is a term with so many TmCases, as flat as can be, of a list l; none of it can be folded.
func casesWithin(n int) impl.Term {
	if n == 0 {
		return tmNum(1)
	}
	half := (n - 1) / 2
	return tmCase("h", "r", tmVar("l"), casesWithin(half), casesWithin(n-1-half))
}

// triesWithin is a term with so many TmTrys, as flat as can be, of a function f.
func triesWithin(n int) impl.Term {
	if n == 0 {
		return tmOf(impl.TmApp, tmVar("f"), tmNum(2))
	}
	half := (n - 1) / 2
	return tmTry("e", triesWithin(half), triesWithin(n-1-half))
}

// captured are so many functions within each other, the innermost of which captures what all the others are handed.
func captured(levels int) impl.Term {
	all := tmNum(0)
	for at := range levels {
		all = tmOp(1, all, tmVar("x"+strconv.Itoa(at)))
	}
	for at := range levels {
		all = tmFn("x"+strconv.Itoa(levels-1-at), tyInt, all)
	}
	for at := range levels {
		all = tmOf(impl.TmApp, all, tmNum(at))
	}
	return all
}

// capturedOfMany is a function that captures so many names of TmLets around it.
func capturedOfMany(names int) impl.Term {
	var sum []string
	text := ""
	for at := range names {
		text += "let x" + strconv.Itoa(at) + " 0 n " + strconv.Itoa(at) + " "
		sum = append(sum, "v x"+strconv.Itoa(at)+" 0")
	}
	whole, _ := impl.ParseTerm(text + "app fn y i op + v y 0 " + sumOf(sum) + " n 100")
	return whole
}

// The greatest terms there are are lowered: no term of 150 nodes wants as many registers or instructions as a Piece may have.
func TestCompileOfTheGreatest(t *testing.T) {
	list := tmOf(impl.TmCons, tmNum(1), tmNil(tyInt))
	is := tyFun(tyInt, tyInt)
	greatest := map[string]impl.Term{
		"sum": sumOfNodes(150), "ones": onesAdded(75), "cases": tmLet("l", 0, list, casesWithin(48)), "tries": tmFix("f", 0, is, tmFn("x", tyInt, tmRaise(tyInt, tmVar("x"))), triesWithin(35)),
		"captures": captured(5), "lets": letsOfNodes(149, func() string { return "x" }, tmNum(7)),
		"deep": wrapped(func(t impl.Term) impl.Term { return tmCase("h", "r", list, tmNum(2), t) }, 22, tmNum(3)), "captures of many": capturedOfMany(16),
	}
	for why, term := range greatest {
		if !impl.Program(term) {
			t.Errorf("the test's own: %s: %s", why, plainTermText(term))
			continue
		}
		w := compiles(t, plainTermText(term))
		if faults := codeFaults(w.lowered); len(faults) > 0 {
			t.Error(why, faults)
		}
		endsAsItsText(t, plainTermText(term), 3000)
	}
	if w := plainWorkOn(plainTermText(greatest["cases"])); w.lowered.Main.Regs < 190 || plainNodes(w.folded) != 149 {
		t.Error("the test's own", w.lowered.Main.Regs, plainNodes(w.folded))
	}
	for why, term := range greatest {
		if plainNodes(term) < 145 && plainDepth(term) < 23 && !strings.HasPrefix(why, "captures") {
			t.Error("the test's own", why, plainNodes(term), plainDepth(term))
		}
	}
	if w := plainWorkOn(plainTermText(greatest["captures of many"])); w.code.Funs[0].In != 17 || w.run(500) != isValue("220") {
		t.Error("the test's own", w.code.Funs[0].In, w.run(500))
	}
	if w := plainWorkOn(plainTermText(greatest["tries"])); plainNodes(w.folded) < 145 {
		t.Error("the test's own", plainNodes(w.folded))
	}
}

// Names are in no Code; they count only as far as they get too long.
func TestCompileForgetsNames(t *testing.T) {
	t.Parallel()
	same, big := 0, 0
	for _, text := range append(allTexts(200), goodTexts()...) {
		c, why := impl.Compile(text)
		sizes, end := impl.Sizes(text), impl.RunText(text, 500)
		for _, ahead := range []string{"q", "zz", "a1", "longnam"} {
			other, ok := impl.ParseTerm(renamedText(t, text, ahead))
			if !ok {
				continue
			}
			text := plainTermText(other)
			got, code := impl.Compile(text)
			switch {
			case code == impl.AllBig && why == impl.AllGood:
				big++
				notCompiled(t, text, impl.AllBig)
			case code != why || !equalCodes(got, c) || impl.Sizes(text) != sizes || impl.RunText(text, 500) != end:
				t.Errorf("%s: %d and\n%s, not %d and\n%s", text, code, codeText(got), why, codeText(c))
			default:
				same++
			}
		}
	}
	if same < 500 || big < 1 {
		t.Error("too few", same, big)
	}
}

// RunText runs the term as it was read, whatever the steps make of it.
func TestRunText(t *testing.T) {
	for _, c := range []struct {
		text, told string
		steps      int
	}{
		{"n 1", "1", 1}, {"op + n 1 n 2", "3", 3}, {"if t n 1 raise i n 2", "1", 3}, {"fst pair n 1 n 2", "1", 4}, {"let x 0 n 1 n 2", "2", 3}, {"let id 1 fn x v0 v x 0 n 3", "3", 3}, {"let c 1 n 4 op + v c 1 i v c 1 b", "8", 5},
		{"let id 1 fn x v0 v x 0 if app v id 1 b t app v id 1 i n 1 n 2", "1", 11}, {"raise i op + n 1 n 5", "raise 6", 4}, {"try e raise i n 4 op + v e 0 n 1", "5", 6}, {"try e n 1 n 2", "1", 2}, {"op + n 1000000 n 1", "raise -1", 3},
		{"raise b n 1", "raise 1", 2}, {"raise l i n -1000000", "raise -1000000", 2}, {"cons n 1 cons n -2 nil i", "[1,-2]", 5}, {"case h r nil i u t", "u", 3}, {"fix f 0 f i i fn x i v x 0 n 2", "2", 2},
		{"fix f 0 f i i fn x i if op < v x 0 n 1 n 0 op + v x 0 app v f 0 op - v x 0 n 1 app v f 0 n 3", "6", 42},
	} {
		ran(t, c.text, c.told, c.steps)
		compiles(t, c.text)
		for fuel := -3; fuel <= c.steps+3; fuel++ {
			want := ends(c.told)
			if fuel < 0 {
				want = isNothing
			} else if fuel < c.steps {
				want = isFuel
			}
			ranText(t, c.text, fuel, want)
		}
		for _, fuel := range []int{math.MinInt, math.MinInt + 1, -20000, -1, 20001, 20002, 40000, 1 << 31, 1 << 32, 1<<32 + 100, math.MaxInt} {
			ranText(t, c.text, fuel, isNothing)
		}
		ranText(t, c.text, impl.MaxFuel, ends(c.told))
	}
	// just as much fuel as there may be, and one step more than that
	for calls := 1990; calls <= 2005; calls++ {
		asPlainAll(t, countedDown(calls))
	}
	// never
	for _, fuel := range []int{0, 1, 2, 100, 19999, 20000} {
		ranText(t, "fix f 0 f i i fn x i app v f 0 v x 0 app v f 0 n 3", fuel, isFuel)
	}
	ranText(t, "fix f 0 f i i fn x i app v f 0 v x 0 app v f 0 n 3", -1, isNothing)
}

// Each of the refusals alone; with any fuel.
func TestRunTextAndSizesOfWhatIsNotGood(t *testing.T) {
	for text, why := range map[string]int{
		"n 1 ": impl.AllText, "": impl.AllText, "pair n 1 n 2": impl.AllType, "v x 0": impl.AllType, "let x.1 0 n 1 v x.1 0": impl.AllType, groups("c", 10, 10, 11): impl.AllMany, "let longname 1 n 1 v longname 1 i": impl.AllBig, groups("c", 30): impl.AllBig,
	} {
		notCompiled(t, text, why)
		// the term by itself would run
		if term, ok := impl.ParseTerm(text); ok && len(plainFree(term)) == 0 && impl.Run(term, impl.MaxFuel).End != impl.EndValue {
			t.Error("the test's own", text)
		}
	}
}

// The five numbers, no two of them the same.
func TestSizes(t *testing.T) {
	for text, want := range map[string][5]int{
		"fix s 0 f i i fn n i if op < v n 0 n 1 n 0 op + v n 0 app v s 0 op - v n 0 n 1 app v s 0 op + n 2 n 2":                    {19, 17, 1, 15, 5},
		"fix n 1 f l v0 i fn l l v0 case h r v l 0 n 0 op + n 1 app v n 0 v r 0 op + app v n 1 i cons n 7 nil i app v n 1 b nil b": {19, 29, 2, 30, 10},
		"let id 1 fn x v0 v x 0 if app v id 1 b t app v id 1 i n 1 n 2":                                                            {11, 14, 2, 12, 5},
		"let id 1 fn x v0 v x 0 if t app v id 1 i n 1 n 2":                                                                         {9, 6, 1, 5, 3},
		"let id 1 fn x v0 v x 0 if u app v id 1 b t op = app v id 1 i n 1 n 1":                                                     {13, 8, 1, 7, 3},
		"let g 0 if op < n 1 n 2 fn x i v x 0 fn y i op + v y 0 n 1 app v g 0 n 5":                                                 {14, 6, 1, 5, 3},
		"app fn x p i b snd v x 0 pair op + n 1 n 2 op < n 1 n 2":                                                                  {11, 7, 1, 8, 4},
		"let c 1 n 4 op + v c 1 i v c 1 b":                                                                                         {5, 7, 0, 4, 2},
		"let c 2 nil p v0 v1 case h r v c 2 i b op + n 3 n 4 fst v h 0":                                                            {9, 7, 0, 8, 2},
		"fst pair n 1 fn x i v x 0":                                                                                                {5, 1, 0, 2, 1},
	} {
		w := compiles(t, text)
		if w.sizes() != want {
			t.Error("the test's own", text, w.sizes(), want)
		}
		if got := impl.Sizes(text); got != want {
			t.Error(text, got, want)
		}
		c, _ := impl.Compile(text)
		if len(c.Funs) != want[2] || impl.Count(c) != want[3] {
			t.Error(text, len(c.Funs), impl.Count(c))
		}
	}
}

// P17's steps over many programs, good ones and others.
func TestAllByChance(t *testing.T) {
	t.Parallel()
	whys := map[int]int{}
	unlike := 0
	for _, text := range allTexts(500) {
		w := plainWorkOn(text)
		asPlainWork(t, text, w, -1, 0, min(w.steps(), 400), min(max(w.steps()-1, 0), 401), 20001)
		whys[w.why]++
		if w.why != 0 {
			continue
		}
		asStepByStep(t, text)
		sizes := w.sizes()
		slices.Sort(sizes[:])
		if len(slices.Compact(sizes[:])) == 5 {
			unlike++
		}
	}
	if whys[impl.AllGood] < 900 || whys[impl.AllMany] < 1 || whys[impl.AllBig] < 50 || unlike < 250 {
		t.Error("too few", whys, unlike)

	}
}

// P17: the code of a text ends as the text does, by RunCode, by RunProg and on heaps of all sorts.
func TestCodeEndsAsItsText(t *testing.T) {
	t.Parallel()
	var n allCounts
	for _, text := range allTexts(500) {
		if _, why := impl.Compile(text); why == impl.AllGood {
			n.add(endsAsItsText(t, text, 700))
		}
	}
	if n.values < 700 || n.raises < 150 || n.fuels < 50 || n.rooms < 500 || n.collected < 5000 || n.caught < 100 || n.called < 300 {
		t.Errorf("too few: %+v", n)
	}
}

// Whole programs, with each fuel up to enough and on a heap of each size.
func TestWholeProgramsEndAsTheirTexts(t *testing.T) {
	t.Parallel()
	for text, want := range map[string]string{
		"fix f 0 f i i fn x i if op < v x 0 n 1 n 0 op + v x 0 app v f 0 op - v x 0 n 1 app v f 0 n 10": "55",
		"fix map 2 f f v0 v1 f l v0 l v1 fn f f v0 v1 fn l l v0 case h r v l 0 nil v1 cons app v f 0 v h 0 app app v map 0 v f 0 v r 0 app app v map 2 b i fn q b if v q 0 n 1 n 0 app app v map 2 i b fn z i op < v z 0 n 2 cons n 1 cons n 2 cons n 0 nil i": "[1,0,1]",
		"fix r 1 f l v0 f l v0 l v0 fn a l v0 fn b l v0 case h t v a 0 v b 0 app app v r 0 v t 0 cons v h 0 v b 0 case h t app app v r 1 b cons t cons u nil b nil b nil i if v h 0 nil i app app v r 1 i cons n 1 cons n 2 cons n 3 nil i nil i":              "[3,2,1]",
		"fix f 0 f i i fn x i if op < v x 0 n 1 raise i n 9 app v f 0 op - v x 0 n 1 try e app v f 0 n 3 op + v e 0 n 1":                                                                                                                                       "10",
		"fix f 0 f i i fn x i try e if op < v x 0 n 1 raise i n 9 app v f 0 op - v x 0 n 1 raise i op + v e 0 n 1 app v f 0 n 3":                                                                                                                               "raise 13",
		"let mk 0 fn a i fn b i fn c i op - v a 0 op * v b 0 v c 0 let f 0 app v mk 0 n 100 let g 0 app v f 0 n 7 op + app v g 0 n 2 app app v f 0 n 3 n 4":                                                                                                    "174",
		"let fs 0 cons fn x i op + v x 0 n 1 cons fn x i op * v x 0 n 3 nil f i i fix go 0 f l f i i f i i fn l l f i i fn n i case h r v l 0 v n 0 app app v go 0 v r 0 app v h 0 v n 0 app app v go 0 v fs 0 n 4":                                            "15",
		"let swap 2 fn p p v0 v1 pair snd v p 0 fst v p 0 let q 0 app v swap 2 i b pair n 3 t if fst v q 0 fst app v swap 2 b i v q 0 n 1":                                                                                                                     "3",
		"try e let x 0 app fn y i op * v y 0 v y 0 n 1001 v x 0 v e 0":                                                                                               "-1",
		"let z 0 n 5 fix even 0 f i b fn n i if op = v n 0 n 0 t if op = v n 0 n 1 u app v even 0 op - v n 0 n 2 app v even 0 v z 0":                                 "u",
		"fix f 0 f i l i fn n i if op < v n 0 n 1 nil i cons op * v n 0 v n 0 app v f 0 op - v n 0 n 1 app v f 0 n 6":                                                "[36,25,16,9,4,1]",
		"fix comp 0 f i f i i fn n i if op = v n 0 n 0 fn x i v x 0 let g 0 app v comp 0 op - v n 0 n 1 fn x i app v g 0 op + v x 0 v n 0 app app v comp 0 n 4 n 10": "20",
		"let id 1 fn x v0 v x 0 let tw 1 fn f f v0 v0 fn x v0 app v f 0 app v f 0 v x 0 app app app v tw 1 f i i v tw 1 i v id 1 i n 3":                              "3",
		"let id 1 fn x v0 v x 0 let tw 1 fn f f v0 v0 fn x v0 app v f 0 app v f 0 v x 0 app app v tw 1 i app v tw 1 i fn k i op + v k 0 n 2 n 3":                     "11",
		"case h r let l 0 cons n 4 cons n 5 nil i v l 0 raise i n 1 try e case g s v r 0 raise i n 2 raise i op + v g 0 v h 0 op + v e 0 n 100":                      "109",
		"raise i app fn x i try e raise i v x 0 raise i op * v e 0 v e 0 n 12":                                                                                       "raise 144",
	} {
		w := compiles(t, text)
		ranText(t, text, impl.MaxFuel, ends(want))
		endsAsItsText(t, text, impl.MaxFuel)
		_, walked := plainRunCode(w.code, impl.MaxFuel)
		for fuel := range walked.steps + 2 {
			end := impl.RunCode(w.code, fuel)
			if fuel < walked.steps && end != isFuel || fuel >= walked.steps && end != ends(want) || !impl.SameEnd(end, impl.RunText(text, fuel)) {
				t.Errorf("%s: with %d it ends with %v", text, fuel, end)
			}
		}
		for size := range 80 {
			for every := range 4 {
				if end, _ := impl.RunMach(w.code, size, every, impl.MaxFuel); end != isRoom && end != ends(want) || end == isRoom && size == 79 {
					t.Errorf("%s: with %d, %d it ends with %v", text, size, every, end)
				}
			}
		}
	}
}

// What is compiled is kept as bytes as well.
func TestCompiledCodeComesBackOfItsBytes(t *testing.T) {
	for _, text := range allTexts(60) {
		c, why := impl.Compile(text)
		if why != impl.AllGood {
			continue
		}
		if back, code := impl.GetCode(impl.PutCode(c)); code != impl.GetGood || !equalCodes(back, c) {
			t.Errorf("%s: %d and %s, not %s", text, code, codeText(back), codeText(c))
		}
	}
}

// Texts with a token or several changed.
func TestAllOfChangedTexts(t *testing.T) {
	t.Parallel()
	r := rand.New(rand.NewSource(171))
	whys := map[int]int{}
	for _, text := range append(allTexts(100), goodTexts()...) {
		for range 8 {
			changed := text
			for range 1 + r.Intn(3) {
				changed = changedText(r, changed)
			}
			w := plainWorkOn(changed)
			whys[w.why]++
			asPlainWork(t, changed, w, -1, 0, 5, 60, 20001)
		}
	}
	if whys[impl.AllGood] < 200 || whys[impl.AllText] < 1000 || whys[impl.AllType] < 300 || whys[impl.AllBig] < 20 {
		t.Error("too few", whys)
	}
}

// Bytes of any kind, and long texts, are no text of a term.
func TestAllOfAnyBytes(t *testing.T) {
	t.Parallel()
	r := rand.New(rand.NewSource(172))
	for range 3000 {
		b := make([]byte, r.Intn(60))
		for at := range b {
			b[at] = byte(r.Intn(256))
			if r.Intn(3) == 0 {
				b[at] = " ntuvfnapp01i"[r.Intn(13)]
			}
		}
		if _, ok := impl.ParseTerm(string(b)); ok {
			continue
		}
		compiledTo(t, string(b), impl.Code{}, [5]int{}, impl.AllText)
		ranText(t, string(b), 100, isNothing)
	}
	for _, one := range []string{"\x00", "\xff", "n", " ", "n ", "n 1 ", "é", "\xe2\x82", "app ", "let x 0 ", "v x 2 ", "f ", "nil l "} {
		for _, times := range []int{1000, 200000, 2000000} {
			text := strings.Repeat(one, times)
			compiledTo(t, text, impl.Code{}, [5]int{}, impl.AllText)
			ranText(t, text, 100, isNothing)
		}
	}
	// a byte of a good text changed
	for _, text := range goodTexts() {
		for range 200 {
			b := []byte(text)
			b[r.Intn(len(b))] = byte(r.Intn(256))
			w := plainWorkOn(string(b))
			compiledTo(t, string(b), w.code, w.sizes(), w.why)
		}
	}
}

// textArguments are texts of each code.
func textArguments() []string {
	return append(append(allTexts(40), goodTexts()...), "", " ", "n 1 ", "pair n 1 n 2", "v x 0", groups("c", 10, 10, 11), "let longname 1 n 1 v longname 1 i")
}

// A text that lies in bytes with others behind it: none of them is read or written, and when they all change no answer does.
func TestAllArgumentsStay(t *testing.T) {
	for _, text := range textArguments() {
		for _, behind := range []string{"\x00", " ", " n 1", "1", "0 n 1 v x 0"} {
			b := []byte(text + behind)
			given := unsafe.String(&b[0], len(text))
			c, why := impl.Compile(given)
			end, sizes := impl.RunText(given, 300), impl.Sizes(given)
			if string(b) != text+behind {
				t.Fatalf("%q: the bytes were written to", text)
			}
			for at := range b {
				b[at] = '?'
			}
			w := plainWorkOn(text)
			if why != w.why || !equalCodes(c, w.code) || sizes != w.sizes() || end != w.run(300) {
				t.Errorf("%q: %d, %v, %v and %s", text, why, sizes, end, codeText(c))
			}
		}
	}
}

func TestAllAnswersAreNewMemory(t *testing.T) {
	for _, text := range textArguments() {
		first, why := impl.Compile(text)
		second, _ := impl.Compile(text)
		ownPlaces(t, text, append(codePlaces(first), codePlaces(second)...))
		if !emptyBehind(first) {
			t.Errorf("%s: something lies behind a list of the answer", text)
		}
		// what is written into an answer is in no other one
		for _, p := range piecesOf(&first) {
			for at := range p.Ins {
				for n := range p.Ins[at].L {
					p.Ins[at].L[n] = 99
				}
				p.Ins[at].Op = 77
			}
		}
		w := plainWorkOn(text)
		if !equalCodes(second, w.code) {
			t.Errorf("%s: two answers share their memory", text)
		}
		compiledTo(t, text, w.code, w.sizes(), why)
	}
}

// Nothing is kept from one call to another, of what is refused as well.
func TestAllKeepsNothing(t *testing.T) {
	texts := textArguments()
	type answers struct {
		code  string
		why   int
		end   impl.Outcome
		sizes [5]int
	}
	ask := func(text string) answers {
		c, why := impl.Compile(text)
		return answers{codeText(c), why, impl.RunText(text, 300), impl.Sizes(text)}
	}
	var first []answers
	for _, text := range texts {
		first = append(first, ask(text))
	}
	for at, text := range slices.Backward(texts) {
		impl.Compile(texts[len(texts)-1-at])
		impl.RunText("let longname 1 n 1 v longname 1 i", 5)
		impl.Sizes(text + " ")
		if got := ask(text); got != first[at] {
			t.Error(text, fmt.Sprint(got), fmt.Sprint(first[at]))
		}
	}
}
