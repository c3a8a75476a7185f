package tests

import (
	"fmt"
	"math/rand"
	"slices"
	"strconv"
	"strings"
	"sync"
	"testing"
	"unsafe"

	"loop.example/g00187/impl"
)

func TestBenchConstants(t *testing.T) {
	if impl.MaxBench != 6000 || impl.MaxLines != 40 {
		t.Error(impl.MaxBench, impl.MaxLines)
	}
}

// twoPairs has one pair that is needed behind a call, and one that is not.
const twoPairs = "let a 0 pair n 1 n 2 let b 0 app fn c i fst pair v c 0 v c 0 n 5 op + v b 0 fst v a 0"

// listed is a list that is built from behind.
const listed = "fix f 0 f i l i fn x i if op < v x 0 n 1 nil i cons v x 0 app v f 0 op - v x 0 n 1 app v f 0 n 4"

// endless calls itself, whatever comes.
const endless = "fix f 0 f i i fn x i app v f 0 v x 0 app v f 0 n 3"

func TestBenchTypes(t *testing.T) {
	answeredAll(t, [][2]string{
		{"type n 5", "i"}, {"type n -1000000", "i"}, {"type t", "b"}, {"type nil l i", "l l i"}, {"type fn x i v x 0", "f i i"}, {"type pair t nil l b", "p b l l b"},
		{"type let id 1 fn x v0 v x 0 v id 1 l b", "f l b l b"}, {"type raise p i b n 1", "p i b"}, {"type " + twoPairs, "i"}, {"type " + listed, "l i"},
		// TypeOf takes what no program may be
		{"type let x.1 0 n 1 v x.1 0", "i"}, {"type fix f 0 f b b fn x b v x 0 v f 0", "f b b"}, {"type nil p i i", "l p i i"},
		{"type " + groups("c", 10, 10, 11), "i"}, {"type let longname 1 n 1 v longname 1 i", "i"}, {"type " + plainTermText(sumOfNodes(150)), "i"},
		{"type v x 0", "error 2"}, {"type fn x i v y 0", "error 2"}, {"type let x 0 v x 0 n 1", "error 2"},
		{"type op + n 1 t", "error 3"}, {"type fst n 1", "error 3"}, {"type if t n 1 u", "error 3"}, {"type cons n 1 n 2", "error 3"},
		{"type nil v0", "error 4"}, {"type let q 0 n 1 v q 1 i", "error 4"}, {"type let q 1 op + n 1 n 2 n 3", "error 4"},
		{"type n", "error 9"}, {"type x", "error 9"}, {"type n 01", "error 9"}, {"type n 1000001", "error 9"}, {"type n 1 n 2", "error 9"}, {"type type n 1", "error 9"}, {"type i", "error 9"},
		{"type let x 3 n 1 n 2", "error 9"}, {"type nil l l l l l l i", "error 9"}, {"type " + plainTermText(sumOfNodes(151)), "error 9"},
	})
	for _, code := range faultCodes() {
		for _, text := range refused(code) {
			answered(t, "type "+text, fmt.Sprint("error ", code))
		}
	}
}

func TestBenchRuns(t *testing.T) {
	answeredAll(t, [][2]string{
		{"run n 5", "is 5"}, {"run n -1000000", "is -1000000"}, {"run t", "is t"}, {"run u", "is u"}, {"run nil i", "is []"}, {"run cons n 1 cons n -2 nil i", "is [1,-2]"},
		{"run op + n 1 n 2", "is 3"}, {"run op < n 1 n 2", "is t"}, {"run try e raise i n 4 op + v e 0 n 1", "is 5"}, {"run " + twoPairs, "is 6"}, {"run " + listed, "is [4,3,2,1]"}, {"run fst pair n 0 fn x i v x 0", "is 0"},
		{"run let id 1 fn x v0 v x 0 if app v id 1 b t app v id 1 i n 1 n 2", "is 1"},
		{"run raise i n 3", "raise 3"}, {"run raise b n 0", "raise 0"}, {"run raise l i n -7", "raise -7"}, {"run op + n 1000000 n 1", "raise -1"}, {"run op = n 3 raise i n -1000000", "raise -1000000"},
		{"run " + endless, "fuel"}, {"run op + raise i n 3 " + endless, "raise 3"}, {"run if t n 3 " + endless, "is 3"},
		{"run n", "error 1"}, {"run n 1 n 2", "error 1"}, {"run x", "error 1"}, {"run run n 1", "error 1"}, {"run " + plainTermText(sumOfNodes(151)), "error 1"},
		{"run pair n 1 n 2", "error 2"}, {"run fn x i v x 0", "error 2"}, {"run nil b", "error 2"}, {"run v x 0", "error 2"}, {"run op + n 1 t", "error 2"}, {"run let x.1 0 n 1 v x.1 0", "error 2"}, {"run nil v0", "error 2"},
		{"run " + groups("c", 10, 10, 11), "error 3"}, {"run " + groups("c", 10, 10, 10), "is 30"},
		{"run let longname 1 n 1 v longname 1 i", "error 4"}, {"run let longname 1 n 1 n 2", "is 2"},
	})
}

func TestBenchMachines(t *testing.T) {
	answeredAll(t, [][2]string{
		{"mach 0 0 n 5", "is 5 0"}, {"mach 999 999 n 5", "is 5 0"}, {"mach 0 1 t", "is t 0"}, {"mach 0 0 nil i", "is [] 0"}, {"mach 0 0 op * n 5 n -5", "is -25 0"},
		{"mach 0 0 cons n 1 nil i", "room 1"}, {"mach 2 0 cons n 1 nil i", "room 1"}, {"mach 3 0 cons n 1 nil i", "is [1] 0"}, {"mach 3 1 cons n 1 nil i", "is [1] 1"}, {"mach 3 2 cons n 1 nil i", "is [1] 0"},
		{"mach 3 0 " + twoPairs, "room 1"}, {"mach 4 0 " + twoPairs, "is 6 0"}, {"mach 999 1 " + twoPairs, "is 6 2"}, {"mach 4 2 " + twoPairs, "is 6 1"}, {"mach 4 3 " + twoPairs, "is 6 0"},
		{"mach 0 0 " + listed, "room 1"}, {"mach 1 0 " + listed, "room 5"}, {"mach 3 0 " + listed, "room 3"}, {"mach 11 0 " + listed, "room 2"}, {"mach 12 0 " + listed, "is [4,3,2,1] 1"}, {"mach 17 0 " + listed, "is [4,3,2,1] 0"},
		{"mach 999 1 " + listed, "is [4,3,2,1] 9"}, {"mach 999 2 " + listed, "is [4,3,2,1] 4"}, {"mach 999 3 " + listed, "is [4,3,2,1] 3"}, {"mach 999 9 " + listed, "is [4,3,2,1] 1"}, {"mach 999 10 " + listed, "is [4,3,2,1] 0"},
		{"mach 0 0 raise i n 3", "raise 3 0"}, {"mach 0 0 raise i n -7", "raise -7 0"}, {"mach 0 0 op + n 1000000 n 1", "raise -1 0"}, {"mach 5 0 let p 0 pair n -3 cons n 1 nil i raise i fst v p 0", "room 1"}, {"mach 6 0 let p 0 pair n -3 cons n 1 nil i raise i fst v p 0", "raise -3 0"}, {"mach 6 1 let p 0 pair n -3 cons n 1 nil i raise i fst v p 0", "raise -3 2"},
		{"mach 0 0 " + endless, "room 1"}, {"mach 1 0 " + endless, "fuel 999"}, {"mach 999 0 " + endless, "fuel 1"}, {"mach 999 1 " + endless, "fuel 1000"}, {"mach 999 999 " + endless, "fuel 1"},
		{"mach 999 1 " + counting(0, 900), "is 0 901"}, {"mach 900 0 " + counting(0, 900), "is 0 1"}, {"mach 901 0 " + counting(0, 900), "is 0 0"}, {"mach 1 0 " + counting(0, 900), "is 0 900"},
	})
	answeredAll(t, [][2]string{
		{"mach 5 1 n", "error 1"}, {"mach 5 1 n 1 n 2", "error 1"}, {"mach 5 1 5 1 n 1", "error 1"}, {"mach 5 1 mach 5 1 n 1", "error 1"}, {"mach 0 0 " + plainTermText(sumOfNodes(151)), "error 1"},
		{"mach 5 1 pair n 1 n 2", "error 2"}, {"mach 0 0 v x 0", "error 2"}, {"mach 999 999 op + n 1 t", "error 2"}, {"mach 0 0 nil v0", "error 2"},
		{"mach 5 1 " + groups("c", 10, 10, 11), "error 3"}, {"mach 5 1 " + groups("c", 10, 10, 10), "is 30 0"},
		{"mach 5 1 let longname 1 n 1 v longname 1 i", "error 4"}, {"mach 5 1 let longname 1 n 1 n 2", "is 2 0"},
	})
}

func TestBenchSizes(t *testing.T) {
	answeredAll(t, [][2]string{
		{"size n 7", "1 1 0 2 1"}, {"size op + n 1 n 2", "3 1 0 2 1"}, {"size cons n 1 nil i", "3 3 0 4 2"}, {"size app fn x i op * v x 0 v x 0 n 3", "6 6 1 6 3"}, {"size " + twoPairs, "16 13 1 10 4"}, {"size " + listed, "17 17 1 15 5"},
		{"size let id 1 fn x v0 v x 0 if app v id 1 b t app v id 1 i n 1 n 2", "11 14 2 12 5"}, {"size raise i n 3", "2 2 0 3 1"}, {"size " + endless, "8 8 1 7 4"},
		{"size n", "error 1"}, {"size", "error 1"}, {"size size n 7", "error 1"}, {"size n 7 ", "error 1"},
		{"size pair n 1 n 2", "error 2"}, {"size v x 0", "error 2"}, {"size nil v0", "error 2"}, {"size let x.1 0 n 1 n 2", "error 2"},
		{"size " + groups("c", 10, 10, 11), "error 3"}, {"size let longname 1 n 1 v longname 1 i", "error 4"},
	})
}

func TestBenchCopies(t *testing.T) {
	answeredAll(t, [][2]string{
		{"mono n 7", "n 7"}, {"mono op + n 1 n 2", "op + n 1 n 2"}, {"mono let id 1 fn x v0 v x 0 n 3", "n 3"}, {"mono raise b n -3", "raise b n -3"}, {"mono " + listed, listed},
		{"mono let id 1 fn x v0 v x 0 app v id 1 i n 1", "let id.0 0 fn x i v x 0 app v id.0 0 n 1"},
		{"mono let id 1 fn x v0 v x 0 if app v id 1 b t app v id 1 i n 1 n 2", "let id.0 0 fn x b v x 0 let id.1 0 fn x i v x 0 if app v id.0 0 t app v id.1 0 n 1 n 2"},
		{"mono pair n 1 n 2", "error 1"}, {"mono v x 0", "error 1"}, {"mono op + n 1 t", "error 1"}, {"mono nil v0", "error 1"}, {"mono let x.1 0 n 1 v x.1 0", "error 1"}, {"mono let id 1 fn x v0 v x 0 v id 1 i", "error 1"},
		{"mono " + groups("c", 10, 10, 11), "error 2"}, {"mono let longname 1 n 1 v longname 1 i", "error 3"}, {"mono let longname 1 n 1 n 2", "n 2"},
		{"mono n", "error 9"}, {"mono n 1 n 2", "error 9"}, {"mono x", "error 9"}, {"mono mono n 1", "error 9"}, {"mono " + plainTermText(sumOfNodes(151)), "error 9"},
	})
	// MaxCopies copies come back, each with its name
	copied, code := impl.Mono(parsedTerm(t, groups("c", 10, 10, 10)))
	if code != impl.MonoGood {
		t.Fatal(code)
	}
	answered(t, "mono "+groups("c", 10, 10, 10), plainTermText(copied))
}

// The fuel of run is 5000, that of mach 20000: met exactly, and passed by one.
func TestBenchFuel(t *testing.T) {
	enough, tooMuch := counting(5, 554), counting(6, 554)
	for text, want := range map[string]int{enough: 5000, tooMuch: 5001} {
		if got := plainWorkOn(text).steps(); got != want {
			t.Errorf("the test's own: %s: %d, not %d", text, got, want)
		}
	}
	answered(t, "run "+enough, "is 0")
	answered(t, "run "+tooMuch, "fuel")
	answered(t, "run raise i "+counting(4, 554), "raise 0")
	answered(t, "run raise i "+enough, "fuel")

	codeEnough, codeTooMuch := counting(4, 800, 900, 795), counting(7, 800, 900, 794)
	for text, want := range map[string]int{codeEnough: 20000, codeTooMuch: 20001} {
		if end, w := plainRunCode(plainWorkOn(text).code, 30000); w.steps != want || end != isValue("0") {
			t.Errorf("the test's own: %s: %v with %d, not %d", text, end, w.steps, want)
		}
	}
	answered(t, "mach 999 0 "+codeEnough, "is 0 2")
	answered(t, "mach 50 0 "+codeEnough, "is 0 50")
	answered(t, "mach 999 1 "+codeEnough, "is 0 2496")
	answered(t, "mach 999 0 "+codeTooMuch, "fuel 2")
	answered(t, "mach 50 0 "+codeTooMuch, "fuel 50")
	answered(t, "mach 999 1 "+codeTooMuch, "fuel 2495")
	// what run has too little fuel for, mach may do
	answered(t, "run "+codeEnough, "fuel")
	answered(t, "mach 999 0 "+tooMuch, "is 0 0")
	// more Pieces begun than may be
	answered(t, "mach 999 0 "+counting(0, 998), "is 0 0")
	answered(t, "mach 999 0 "+counting(0, 999), "fuel 1")
}

func TestBenchLines(t *testing.T) {
	for text, want := range map[string]string{
		"": "", "\n": "", "\n\n\n": "", strings.Repeat("\n", 40): "",
		"run n 1": "is 1\n", "run n 1\n": "is 1\n", "run n 1\n\n": "is 1\n", "\nrun n 1": "is 1\n", "\n\nrun n 1\n\n": "is 1\n",
		"run n 1\nrun n 2": "is 1\nis 2\n", "run n 1\nrun n 2\n": "is 1\nis 2\n", "run n 1\n\nrun n 2": "is 1\nis 2\n", "run n 1\n\n\n\nrun n 2\n\n": "is 1\nis 2\n",
		" ": "what\n", " \n": "what\n", "\n \n": "what\n", " \n ": "what\nwhat\n", "\n\n \n\n": "what\n", "run n 1\n \nrun n 2": "is 1\nwhat\nis 2\n",
		// a byte 13, a tab, a zero byte and others are bytes like all
		"\r": "what\n", "\r\n": "what\n", "\r\n\r\n": "what\nwhat\n", "run n 1\r\nrun n 2\r\n": "error 1\nerror 1\n", "run n 1\rrun n 2": "error 1\n", "type n 1\r": "error 9\n", "run\r n 1": "what\n", "\rrun n 1": "what\n", "run \rn 1": "error 1\n",
		"run\tn 1": "what\n", "\trun n 1": "what\n", "run \tn 1": "error 1\n", "run n 1\t": "error 1\n", "run n\t1": "error 1\n", "mach\t5 1 n 1": "what\n", "mach 5\t1 n 1": "what\n", "mach 5 1\tn 1": "what\n", "mach 5 1 \tn 1": "error 1\n", "\t": "what\n", "\t\nrun n 1": "what\nis 1\n",
		"\x00": "what\n", "\x00\x00\n\x00": "what\nwhat\n", "run n 1\x00": "error 1\n", "run\x00n 1": "what\n", "run\x00 n 1": "what\n", "\x00run n 1": "what\n", "run \x00": "error 1\n", "type \x00": "error 9\n", "mach 5 1\x00 n 1": "what\n", "mach \x005 1 n 1": "what\n", "mach 5 1 \x00": "error 1\n", "run n 1\n\x00\nrun n 2": "is 1\nwhat\nis 2\n",
		"run n 1\vrun n 2": "error 1\n", "run n 1\frun n 2": "error 1\n", "run n 1\u0085run n 2": "error 1\n", "run n 1\u2028run n 2": "error 1\n", "run\u00a0n 1": "what\n", "\v": "what\n", "\ufeffrun n 1": "what\n",
		// no UTF-8
		"\xff": "what\n", "run \xff": "error 1\n", "run\xff n 1": "what\n", "\xffrun n 1": "what\n", "type n 1\xff": "error 9\n", "type \xc3": "error 9\n", "\xc3\nrun n 1": "what\nis 1\n", "mono \xe2\x82\n": "error 9\n", "mach \xff 1 n 1": "what\n", "mach 5 1 \xff": "error 1\n", "size é": "error 1\n", "é": "what\n",
		// a literal \n is none
		`run n 1\nrun n 2`: "error 1\n",
	} {
		benched(t, text, want)
	}
}

func TestBenchBlanks(t *testing.T) {
	answeredAll(t, [][2]string{
		{" type n 1", "what"}, {"  type n 1", "what"}, {" ", "what"}, {"  ", "what"}, {" run", "what"}, {" mach 5 1 n 1", "what"}, {" size n 7", "what"}, {" mono n 1", "what"}, {" fly", "what"},
		{"type  n 1", "error 9"}, {"run  n 1", "error 1"}, {"size  n 1", "error 1"}, {"mono  n 1", "error 9"}, {"type n  1", "error 9"}, {"run op +  n 1 n 2", "error 1"},
		{"type", "error 9"}, {"run", "error 1"}, {"mach", "what"}, {"size", "error 1"}, {"mono", "error 9"}, {"fly", "what"},
		{"type ", "error 9"}, {"run ", "error 1"}, {"mach ", "what"}, {"size ", "error 1"}, {"mono ", "error 9"}, {"fly ", "what"},
		{"type  ", "error 9"}, {"run  ", "error 1"}, {"mach  ", "what"}, {"size  ", "error 1"}, {"mono  ", "error 9"}, {"fly  ", "what"},
		{"type n 1 ", "error 9"}, {"run n 1 ", "error 1"}, {"size n 1 ", "error 1"}, {"mono n 1 ", "error 9"}, {"mach 5 1 n 1 ", "error 1"}, {"run pair n 1 n 2 ", "error 1"},
	})
	answeredAll(t, [][2]string{
		{"mach 5", "what"}, {"mach 5 ", "what"}, {"mach 5  ", "what"}, {"mach n 1", "what"}, {"mach 1 n 1", "what"}, {"mach 5 n 1", "what"}, {"mach 5 pair n 1 n 2", "what"}, {"mach  5", "what"},
		{"mach 5 1", "error 1"}, {"mach 5 1 ", "error 1"}, {"mach 5 1  ", "error 1"}, {"mach 5 1 n", "error 1"}, {"mach 5 1  n 1", "error 1"}, {"mach 5 1 1 n 1", "error 1"},
		{"mach  5 1 n 1", "what"}, {"mach 5  1 n 1", "what"}, {"mach  5  1 n 1", "what"}, {"mach   ", "what"}, {"mach  1 n 1", "what"}, {"mach 5 1 n 1", "is 1 0"},
		// other numbers, and no program as well
		{"mach 05 1 pair n 1 n 2", "what"}, {"mach 5 01 v x 0", "what"}, {"mach 5 1000 n", "what"}, {"mach 1000 1", "what"}, {"mach 5 -1 ", "what"},
	})
}

func TestBenchNumbers(t *testing.T) {
	right := []string{"0", "1", "5", "9", "10", "90", "99", "100", "101", "500", "998", "999"}
	for _, size := range right {
		for _, every := range right {
			answered(t, "mach "+size+" "+every+" n 1", "is 1 0")
		}
	}
	for _, wrong := range []string{
		"", "00", "01", "000", "001", "010", "099", "0999", "1000", "1001", "5000", "9999", "10000", "0000", "-0", "-1", "-5", "-999", "+0", "+1", "+999", "--1", "1-", "1a", "a1", "a", "x", "n", "t", "0x1", "0b1", "0o1", "1_0", "1e1", "1.", ".1", "1.0", "1,0", "1\t", "\t1", "1\x00", "\x001", "1\r", "1\xff",
		"1\u0661", "\u0661", "\uff11", "\u00b2", "½", "1" + strings.Repeat("0", 20), strings.Repeat("9", 30), "18446744073709551617", "4294967297", "-18446744073709551615", "NaN", "Inf",
	} {
		answered(t, "mach "+wrong+" 1 n 1", "what")
		answered(t, "mach 5 "+wrong+" n 1", "what")
		answered(t, "mach "+wrong+" "+wrong+" n 1", "what")
		answered(t, "mach 5 "+wrong, "what")
		answered(t, "mach "+wrong, "what")
	}
	// each number at its own place
	for n := range 1000 {
		digits := strconv.Itoa(n)
		at3, every1 := "is [1] 0", "is [1] 0"
		if n < 3 {
			at3 = "room 1"
		}
		if n == 1 {
			every1 = "is [1] 1"
		}
		benched(t, "mach "+digits+" 0 cons n 1 nil i\nmach 3 "+digits+" cons n 1 nil i", at3+"\n"+every1+"\n")
	}
}

// Words that are not quite known.
func TestBenchWords(t *testing.T) {
	for word, numbers := range map[string]string{"type": "", "run": "", "mach": "5 1 ", "size": "", "mono": ""} {
		behind := " " + numbers + "n 1"
		for size := range len(word) {
			answered(t, word[:size]+behind, "what")
			if size > 0 {
				answered(t, word[:size], "what")
				answered(t, word[size:]+behind, "what")
			}
			answered(t, word[:size]+" "+word[size:]+behind, "what")
			answered(t, word[:size]+strings.ToUpper(word[size:size+1])+word[size+1:]+behind, "what")
		}
		for _, more := range []string{"s", "e", "1", ".", ":", "\t", "\x00", "\xff", "-", word, "type", "é"} {
			answered(t, word+more+behind, "what")
			answered(t, more+word+behind, "what")
			answered(t, word+more, "what")
		}
		answered(t, strings.ToUpper(word)+behind, "what")
		answered(t, word+strings.TrimSpace(behind), "what")
	}
	for _, word := range []string{"fly", "machine", "monomorph", "bench", "what", "error", "is", "raise", "fuel", "room", "too", "n", "t", "compile", "text", "typo", "ran", "runs", "sizes", "0", "?"} {
		answered(t, word+" n 1", "what")
		answered(t, word, "what")
	}
}

func TestBenchLimits(t *testing.T) {
	const tooLong = "too long\n"
	// bytes
	for _, c := range []struct{ text, want string }{
		{"", ""}, {"run n 1\n", "is 1\n"}, {"size n 7\n\n\nmach 5 1 cons n 1 nil i\n", "1 1 0 2 1\nis [1] 1\n"}, {strings.Repeat("\n", 39), ""}, {strings.Repeat("run n 2\n", 39), strings.Repeat("is 2\n", 39)},
	} {
		benched(t, filledUp(c.text, 5999), c.want+"what\n")
		benched(t, filledUp(c.text, 5999)+"\n", c.want+"what\n")
		benched(t, filledUp(c.text, 6000), c.want+"what\n")
		benched(t, filledUp(c.text, 6001), tooLong)
		benched(t, filledUp(c.text, 6000)+"\n", tooLong)
		benched(t, filledUp(c.text, 6002), tooLong)
	}
	for _, word := range []string{"type ", "mono "} {
		benched(t, filledUp(word, 6000), "error 9\n")
		benched(t, filledUp(word, 6001), tooLong)
	}
	for _, one := range []string{" ", "\x00", "\xff", "a", "\r"} {
		benched(t, strings.Repeat(one, 6000), "what\n")
		benched(t, strings.Repeat(one, 6001), tooLong)
	}
	// bytes count, whatever they are a part of
	benched(t, strings.Repeat("é", 3000), "what\n")
	benched(t, strings.Repeat("é", 3000)+"a", tooLong)
	benched(t, strings.Repeat("é", 3001), tooLong)
	// lines
	for _, line := range []string{"", "run n 2", "fly", " ", "\r", "mach 5 1 cons n 1 nil i", "type fn x i v x 0"} {
		ended, want := line+"\n", ""
		if line != "" {
			want = plainAnswer(line) + "\n"
		}
		for many := range 40 {
			benched(t, strings.Repeat(ended, many), strings.Repeat(want, many))
			benched(t, strings.Repeat(ended, many)+line, strings.Repeat(want, many+1))
		}
		benched(t, strings.Repeat(ended, 40), strings.Repeat(want, 40))
		benched(t, strings.Repeat(ended, 40)+"x", tooLong)
		benched(t, strings.Repeat(ended, 40)+"\n", tooLong)
		benched(t, strings.Repeat(ended, 40)+" ", tooLong)
		benched(t, strings.Repeat(ended, 40)+"run n 1", tooLong)
		benched(t, strings.Repeat(ended, 41), tooLong)
		benched(t, "\n"+strings.Repeat(ended, 40), tooLong)
		benched(t, strings.Repeat(ended, 20)+"\n"+strings.Repeat(ended, 20), tooLong)
		benched(t, strings.Repeat(ended, 20)+"\n"+strings.Repeat(ended, 19), strings.Repeat(want, 39))
	}
	// both limits at once
	both := strings.Repeat("run n 2\n", 39)
	benched(t, filledUp(both, 5999)+"\n", strings.Repeat("is 2\n", 39)+"what\n")
	benched(t, filledUp(both, 6000)+"\n", tooLong)
	benched(t, filledUp(both, 5998)+"\n\n", tooLong)
	for _, one := range []string{"\n", "a", "run n 1\n", "\n\nx", "\xff\n"} {
		for _, times := range []int{6001, 100000, 5000000} {
			benched(t, strings.Repeat(one, times), tooLong)
		}
	}
}

// Terms that take as much as may be, on as many lines as may be.
func TestBenchOfTheGreatest(t *testing.T) {
	for line, answer := range map[string]string{
		"run " + endless: "fuel", "mach 999 1 " + endless: "fuel 1000", "mach 999 1 " + counting(0, 800, 900, 790): "is 0 2491", "size " + counting(5, 700): "25 25 1 30 5",
		"mono " + counting(8, 1): "", "type " + counting(8, 1): "i", "run " + counting(0, 500): "is 0",
	} {
		if answer == "" {
			answer = counting(8, 1)
		}
		many := min(40, 6000/(len(line)+1))
		benched(t, strings.Repeat(line+"\n", many), strings.Repeat(answer+"\n", many))
	}
	// a list with a long text: each call adds one
	numbers := func(n int) string {
		return "fix f 0 f i l i fn x i if op < v x 0 n 1 nil i cons op - n -999000 v x 0 app v f 0 op - v x 0 n 1 app v f 0 n " + strconv.Itoa(n)
	}
	want := "["
	for n := 300; n > 0; n-- {
		want += strconv.Itoa(-999000-n) + ","
	}
	want = strings.TrimSuffix(want, ",") + "]"
	many := min(40, 6000/(len("run "+numbers(300))+1))
	benched(t, strings.Repeat("run "+numbers(300)+"\n", many), strings.Repeat("is "+want+"\n", many))
	answered(t, "mach 999 0 "+numbers(300), "is "+want+" 1")
	answered(t, "mach 999 0 "+numbers(340), "room 2")
}

// P21: the answers to lines, and to others behind them, begin with the answers to the first ones; each is that of its line alone.
func TestBenchHangsOnTheLinesAheadAlone(t *testing.T) {
	t.Parallel()
	met := map[string]int{}
	for _, lines := range benchTexts(benchLines(1500, 21)) {
		whole := impl.Bench(strings.Join(lines, "\n"))
		ahead := ""
		for at, line := range lines {
			alone := impl.Bench(line)
			if want := plainBench(line); alone != want {
				t.Errorf("%q: %q, not %q", line, alone, want)
			}
			if (alone == "") != (line == "") || strings.Count(alone, "\n") != min(len(line), 1) {
				t.Errorf("%q: %q", line, alone)
			}
			word, _, _ := strings.Cut(strings.TrimSuffix(alone, "\n"), " ")
			met[word]++
			met[alone]++
			ahead += alone
			begun := strings.Join(lines[:at+1], "\n")
			if at%7 != 0 {
				continue
			}
			for _, text := range []string{begun, begun + "\n"} {
				if got := impl.Bench(text); got != ahead || !strings.HasPrefix(whole, got) {
					t.Errorf("%q: %q, not %q", text, got, ahead)
				}
			}
		}
		if whole != ahead {
			t.Errorf("%q: %q, not %q", lines, whole, ahead)
		}
		// in another order, each line has its answer
		behind := slices.Clone(lines)
		slices.Reverse(behind)
		want := ""
		for _, line := range behind {
			want += impl.Bench(line)
		}
		if got := impl.Bench(strings.Join(behind, "\n")); got != want {
			t.Errorf("%q: %q, not %q", behind, got, want)
		}
	}
	for _, answer := range []string{"", "is", "raise", "fuel", "room", "what", "error", "error 1\n", "error 2\n", "error 3\n", "error 4\n", "error 9\n", "i", "let"} {
		if met[answer] < 3 {
			t.Error("too few", answer, met[answer])
		}
	}
}

// Bytes of any kind.
func TestBenchOfAnyBytes(t *testing.T) {
	t.Parallel()
	r := rand.New(rand.NewSource(212))
	parts := []string{"type", "run", "mach", "size", "mono", " ", " ", " ", "\n", "\n", "0", "1", "5 1", "n 1", "t", "cons n 1 nil i", "\x00", "\xff", "\r", "x", "\n\n"}
	for range 4000 {
		text := ""
		for range r.Intn(60) {
			if r.Intn(12) == 0 {
				text += string([]byte{byte(r.Intn(256))})
			} else {
				text += parts[r.Intn(len(parts))]
			}
		}
		benched(t, text, plainBench(text))
	}
}

func benchArguments() []string {
	var texts []string
	for _, lines := range benchTexts(benchLines(150, 213)) {
		texts = append(texts, strings.Join(lines, "\n"))
	}
	return append(texts, "", "\n", "fly", "type n 1", "run n 1\n", strings.Repeat("\n", 41), filledUp("run n 1\n", 6001), "mach 3 1 cons n 1 nil i", "type "+twoPairs, "mono n 1", "mono "+listed, "run "+listed, "size "+listed)
}

// A text that lies in bytes with others behind it: none of them is read or written, and when they all change no answer does.
func TestBenchArgumentsStay(t *testing.T) {
	for _, text := range benchArguments() {
		want := plainBench(text)
		for _, behind := range []string{"\x00", " ", "\n", "1", "\nrun n 1\n"} {
			b := []byte(text + behind)
			got := impl.Bench(unsafe.String(&b[0], len(text)))
			if string(b) != text+behind {
				t.Fatalf("%q: the bytes were written to", text)
			}
			for at := range b {
				b[at] = '?'
			}
			if got != want {
				t.Errorf("%q: %q, not %q", text, got, want)
			}
		}
	}
}

// Nothing is kept from one call to another, nor from one line to the next.
func TestBenchKeepsNothing(t *testing.T) {
	texts := benchArguments()
	for at, text := range slices.Backward(texts) {
		impl.Bench(texts[len(texts)-1-at])
		impl.Bench(strings.Repeat("\n", 50))
		if got, want := impl.Bench(text), plainBench(text); got != want {
			t.Errorf("%q: %q, not %q", text, got, want)
		}
	}
	// a name, an instance, a word and numbers of a line are gone behind it
	benched(t, "run let x 0 n 1 v x 0\nrun v x 0\ntype let id 1 fn x v0 v x 0 v id 1 i\ntype v id 1 i\nmach 1 1\ncons n 1 nil i\nn 1\nmono let c 1 n 1 v c 1 i\nmono let c 1 n 1 v c 1 i\nmach 3 0 cons n 1 nil i\nmach 3 0 cons n 1 nil i\nrun raise i n 4\nrun n 1",
		"is 1\nerror 2\nf i i\nerror 2\nerror 1\nwhat\nwhat\nlet c.0 0 n 1 v c.0 0\nlet c.0 0 n 1 v c.0 0\nis [1] 0\nis [1] 0\nraise 4\nis 1\n")
	// fuel and words are those of one line
	line := "mach 999 0 " + counting(4, 800, 900, 795)
	benched(t, strings.Repeat(line+"\n", 20), strings.Repeat("is 0 2\n", 20))
	line = "run " + counting(5, 554)
	benched(t, strings.Repeat(line+"\n", 20), strings.Repeat("is 0\n", 20))
}

func TestBenchAtOnce(t *testing.T) {
	texts := benchArguments()
	got := make([]string, 4*len(texts))
	var all sync.WaitGroup
	for n := range got {
		all.Go(func() { got[n] = impl.Bench(texts[n%len(texts)]) })
	}
	all.Wait()
	for n, told := range got {
		if want := plainBench(texts[n%len(texts)]); told != want {
			t.Errorf("%q: %q, not %q", texts[n%len(texts)], told, want)
		}
	}
}
