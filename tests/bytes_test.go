package tests

import (
	"bytes"
	"fmt"
	"math"
	"math/rand"
	"reflect"
	"slices"
	"testing"

	"loop.example/g00187/impl"
)

func TestBytesConstants(t *testing.T) {
	if impl.GetGood != 0 || impl.GetMark != 1 || impl.GetSum != 2 || impl.GetForm != 3 {
		t.Error(impl.GetGood, impl.GetMark, impl.GetSum, impl.GetForm)
	}
}

// numCases are numbers and the bytes of each, at and just beyond where one group more is needed.
var numCases = []struct {
	n    int
	text string
}{
	{0, "00"}, {-1, "01"}, {1, "02"}, {-2, "03"}, {2, "04"}, {62, "7c"}, {-63, "7d"}, {63, "7e"}, {-64, "7f"},
	{64, "80 01"}, {-65, "81 01"}, {65, "82 01"}, {127, "fe 01"}, {128, "80 02"}, {-128, "ff 01"}, {-129, "81 02"}, {8191, "fe 7f"}, {-8192, "ff 7f"},
	{8192, "80 80 01"}, {-8193, "81 80 01"}, {1048575, "fe ff 7f"}, {-1048576, "ff ff 7f"}, {1000000, "80 89 7a"}, {-1000000, "ff 88 7a"},
	{1048576, "80 80 80 01"}, {-1048577, "81 80 80 01"}, {134217727, "fe ff ff 7f"}, {-134217728, "ff ff ff 7f"},
	{134217728, "80 80 80 80 01"}, {-134217729, "81 80 80 80 01"},
	{999999999, "fe a7 d6 b9 07"}, {-999999999, "fd a7 d6 b9 07"}, {1000000000, "80 a8 d6 b9 07"}, {-1000000000, "ff a7 d6 b9 07"},
}

func TestPutNum(t *testing.T) {
	for _, c := range numCases {
		want := toldBytes(c.text)
		for _, b := range [][]byte{nil, {}, {9}, {0}, {0x80}, []byte("GW"), bytes.Repeat([]byte{0xff}, 40)} {
			putsNum(t, b, c.n, want)
			put := impl.PutNum(b, c.n)
			getsNum(t, put, len(b), c.n, len(b)+len(want), true)
		}
	}
}

// Beyond 10^9 either way it counts as that.
func TestPutNumOfWhatIsBeyond(t *testing.T) {
	for n, text := range map[int]string{
		1000000001: "80 a8 d6 b9 07", 1073741823: "80 a8 d6 b9 07", 2000000000: "80 a8 d6 b9 07", 1 << 31: "80 a8 d6 b9 07", 1 << 32: "80 a8 d6 b9 07", 1 << 62: "80 a8 d6 b9 07", 1<<62 - 1: "80 a8 d6 b9 07", math.MaxInt - 1: "80 a8 d6 b9 07", math.MaxInt: "80 a8 d6 b9 07",
		-1000000001: "ff a7 d6 b9 07", -1073741824: "ff a7 d6 b9 07", -2000000000: "ff a7 d6 b9 07", -1 << 31: "ff a7 d6 b9 07", -1 << 32: "ff a7 d6 b9 07", -1 << 62: "ff a7 d6 b9 07", -1<<62 - 1: "ff a7 d6 b9 07", math.MinInt + 1: "ff a7 d6 b9 07", math.MinInt: "ff a7 d6 b9 07",
	} {
		for _, b := range [][]byte{nil, {9}, []byte("ab")} {
			putsNum(t, b, n, toldBytes(text))
		}
	}
}

// Each number comes back, behind other bytes and ahead of others, with the place behind it.
func TestNumbersComeBack(t *testing.T) {
	t.Parallel()
	look := func(n int) {
		want := plainNum(n)
		if got := impl.PutNum(nil, n); !bytes.Equal(got, want) {
			t.Errorf("%d: %x, not %x", n, got, want)
		}
		for _, ahead := range [][]byte{nil, {0}, {0x80, 0x80}} {
			for _, behind := range [][]byte{nil, {0}, {0x80}, {0xff, 0xff}} {
				b := slices.Concat(ahead, want, behind)
				getsNum(t, b, len(ahead), n, len(ahead)+len(want), true)
			}
		}
	}
	for n := -9000; n <= 9000; n++ {
		look(n)
	}
	for power := 1; power < 1_000_000_000; power *= 2 {
		for off := -3; off <= 3; off++ {
			look(power + off)
			look(-power + off)
		}
	}
	for off := range 300 {
		look(1_000_000_000 - off)
		look(-1_000_000_000 + off)
	}
	r := rand.New(rand.NewSource(161))
	for range 5000 {
		look(r.Intn(2_000_000_001) - 1_000_000_000)
	}
}

// Many numbers, one behind the other, each put behind the bytes that PutNum told.
func TestNumbersInARow(t *testing.T) {
	var b, want []byte
	var places []int
	for _, c := range numCases {
		places = append(places, len(b))
		b = impl.PutNum(b, c.n)
		want = append(want, toldBytes(c.text)...)
	}
	if !bytes.Equal(b, want) {
		t.Errorf("%x, not %x", b, want)
	}
	at := 0
	for k, c := range numCases {
		if at != places[k] {
			t.Error(k, at, places[k])
		}
		n, behind, ok := impl.GetNum(b, at)
		if !ok || n != c.n {
			t.Fatal(c.n, n, behind, ok)
		}
		at = behind
	}
	if at != len(b) {
		t.Error(at, len(b))
	}
}

func TestGetNumOfPlaces(t *testing.T) {
	b := toldBytes("04 80 01 ff 88 7a 00")
	getsNum(t, b, 0, 2, 1, true)
	getsNum(t, b, 1, 64, 3, true)
	getsNum(t, b, 2, -1, 3, true)
	getsNum(t, b, 3, -1000000, 6, true)
	getsNum(t, b, 4, 7812, 6, true)
	getsNum(t, b, 5, 61, 6, true)
	getsNum(t, b, 6, 0, 7, true)
	for _, given := range [][]byte{b, roomyBytes(b), nil, {}, roomyBytes(nil), {0x80}, {0}} {
		for _, at := range []int{math.MinInt, math.MinInt + 1, -1 << 32, -8, -7, -2, -1, len(given), len(given) + 1, len(given) + 7, 1 << 32, math.MaxInt - 5, math.MaxInt - 4, math.MaxInt - 1, math.MaxInt} {
			getsNum(t, given, at, 0, 0, false)
		}
	}
}

// They are not there whole; what lies behind the length is not there.
func TestGetNumOfWhatBreaksOff(t *testing.T) {
	for _, c := range numCases {
		whole := toldBytes(c.text)
		for k := range whole {
			getsNum(t, whole[:k], 0, 0, 0, false)
			getsNum(t, bytes.Clone(whole[:k]), 0, 0, 0, false)
			getsNum(t, append([]byte{5}, whole[:k]...), 1, 0, 0, false)
		}
	}
	for k := range 200 {
		for _, one := range []byte{0x80, 0x81, 0xff} {
			getsNum(t, bytes.Repeat([]byte{one}, k), 0, 0, 0, false)
		}
	}
}

func TestGetNumOfTheLastGroup(t *testing.T) {
	getsNum(t, []byte{0}, 0, 0, 1, true)
	getsNum(t, []byte{0, 0}, 0, 0, 1, true)
	getsNum(t, []byte{0, 0}, 1, 0, 2, true)
	// within it a group may be 0
	getsNum(t, toldBytes("80 80 01"), 0, 8192, 3, true)
	for _, text := range []string{"80 00", "81 00", "82 00", "ff 00", "80 80 00", "ff ff 00", "80 80 80 00", "84 80 80 00", "80 80 80 80 00", "ff ff ff ff 00", "80 a8 d6 b9 87 00", "82 80 80 80 80 00", "82 80 80 80 80 80 80 80 80 00", "82 80 80 80 80 80 80 80 80 80 00", "82 80 80 80 80 80 80 80 80 80 80 80 00"} {
		b := toldBytes(text)
		getsNum(t, b, 0, 0, 0, false)
		getsNum(t, append(bytes.Clone(b), 1), 0, 0, 0, false)
		getsNum(t, append([]byte{3}, b...), 1, 0, 0, false)
		// the last group by itself
		getsNum(t, b, len(b)-1, 0, len(b), true)
	}
	for k := 1; k < 100; k++ {
		getsNum(t, append(bytes.Repeat([]byte{0x80}, k), 0), 0, 0, 0, false)
		getsNum(t, append(bytes.Repeat([]byte{0xff}, k), 0), 0, 0, 0, false)
	}
}

// 10^9 either way, one beyond, and more groups than an int has room for: those that come to a little number, were they to wrap, among them.
func TestGetNumOfWhatIsBeyond(t *testing.T) {
	getsNum(t, toldBytes("80 a8 d6 b9 07"), 0, 1_000_000_000, 5, true)
	getsNum(t, toldBytes("ff a7 d6 b9 07"), 0, -1_000_000_000, 5, true)
	getsNum(t, toldBytes("fe a7 d6 b9 07"), 0, 999_999_999, 5, true)
	for _, text := range []string{
		// one beyond
		"82 a8 d6 b9 07", "81 a8 d6 b9 07", "83 a8 d6 b9 07", "84 a8 d6 b9 07",
		// where 31, 32 and 33 bits end
		"fe ff ff ff 07", "ff ff ff ff 07", "80 80 80 80 08", "81 80 80 80 08", "fe ff ff ff 0f", "ff ff ff ff 0f", "80 80 80 80 10", "82 80 80 80 10", "81 80 80 80 10", "ff ff ff ff 1f", "80 80 80 80 20", "ff ff ff ff 7f", "80 80 80 80 40",
		// six groups and more
		"80 80 80 80 80 01", "81 80 80 80 80 01", "82 80 80 80 80 01", "80 a8 d6 b9 87 01", "ff ff ff ff ff 7f", "80 80 80 80 80 80 01", "ff ff ff ff ff ff ff 7f", "82 80 80 80 80 80 80 80 01",
		// where 63, 64 and 65 bits end
		"fe ff ff ff ff ff ff ff 7f", "ff ff ff ff ff ff ff ff 7f", "80 80 80 80 80 80 80 80 80 01", "81 80 80 80 80 80 80 80 80 01", "82 80 80 80 80 80 80 80 80 01", "fe ff ff ff ff ff ff ff ff 01", "ff ff ff ff ff ff ff ff ff 01", "80 80 80 80 80 80 80 80 80 02", "82 80 80 80 80 80 80 80 80 02", "81 80 80 80 80 80 80 80 80 02", "82 80 80 80 80 80 80 80 80 04", "82 80 80 80 80 80 80 80 80 7e", "82 80 80 80 80 80 80 80 80 80 01", "ff ff ff ff ff ff ff ff ff ff ff 01",
	} {
		b := toldBytes(text)
		getsNum(t, b, 0, 0, 0, false)
		getsNum(t, append(bytes.Clone(b), 0, 0), 0, 0, 0, false)
		getsNum(t, append([]byte{0x80}, b...), 1, 0, 0, false)
	}
	for k := 5; k < 300; k++ {
		for _, one := range []byte{0x80, 0x82, 0xff} {
			for _, last := range []byte{1, 2, 64, 127} {
				getsNum(t, append(bytes.Repeat([]byte{one}, k), last), 0, 0, 0, false)
			}
		}
	}
}

// Each two bytes; more of them by chance; from each place.
func TestGetNumOfAnyBytes(t *testing.T) {
	t.Parallel()
	for n := range 1 << 16 {
		asPlainGetNum(t, []byte{byte(n >> 8), byte(n)}, 0)
	}
	r := rand.New(rand.NewSource(162))
	told, not := 0, 0
	for range 20000 {
		b := make([]byte, r.Intn(12))
		for at := range b {
			b[at] = []byte{0, 1, 7, 8, 0x7f, 0x80, 0x81, 0xa8, 0xd6, 0xff, byte(r.Intn(256)), byte(128 + r.Intn(128))}[r.Intn(12)]
		}
		for at := -1; at <= len(b)+1; at++ {
			if asPlainGetNum(t, b, at) {
				n, behind, _ := impl.GetNum(b, at)
				// one number has one row of bytes
				if !bytes.Equal(impl.PutNum(b[:at], n), b[:behind]) {
					t.Errorf("%x at %d: %d", b, at, n)
				}
				told++
			} else {
				not++
			}
		}
	}
	if told < 30000 || not < 30000 {
		t.Error("too few", told, not)
	}
}

// codeBytes are Codes as toldCode reads them and all the bytes of each.
var codeBytes = []struct{ text, bytes string }{
	{"main 0: jump 0", "47 57 00 01 00 00 02 1a 00 00 00 00 00 00 2d 16"},
	{"main 1: num 0 5; ret 0", "47 57 00 01 00 02 04 02 00 00 00 0a 00 00 1e 00 00 00 00 00 00 82 56"},
	{"main 1: num 0 -1000000; ret 0", "47 57 00 01 00 02 04 02 00 00 00 ff 88 7a 00 00 1e 00 00 00 00 00 00 85 85"},
	{"main 400: num 399 1000000; ret 64", "47 57 00 01 00 a0 06 04 02 9e 06 00 00 80 89 7a 00 00 1e 00 80 01 00 00 00 00 3e 86"},
	{"main 3: bool 2 1; nil 1; move 2 1; cons 0 2 1; ifnil 0 7; first 1 0; second 2 0; ret 2", "47 57 00 01 00 06 10" +
		"04 04 00 00 02 00 00  06 02 00 00 00 00 00  08 04 02 00 00 00 00  0e 00 04 02 00 00 00  18 00 00 00 00 0e 00  12 02 00 00 00 00 00  14 04 00 00 00 00 00  1e 00 04 00 00 00 00  01 9e"},
	{"fun 4 1 1: ret 0 | main 3: make 0 4; num 1 8; call 2 0 1 4; ret 2", "47 57 02  08 02 02 02 1e 00 00 00 00 00 00  01 00 06 08" +
		"10 00 00 00 08 00 00  02 02 00 00 10 00 00  1c 04 00 02 00 00 02 08  1e 00 04 00 00 00 00  ef 28"},
	{"fun 0 3 4: pair 3 2 1; sub 0 3 2; jump 0 | fun 149 1 2: raise 0; less 1 0 0; ret 1 | main 4: try 3 5; make 2 0 3 1; call 1 2 0 0 149; end; ifnot 1 0; jump 2", "47 57 04" +
		"00 06 08 06  0c 06 04 02 00 00 00  0a 00 06 04 04 00 00  1a 00 00 00 00 00 00" +
		"aa 02 02 04 06  20 00 00 00 00 00 00  0a 02 00 00 08 00 00  1e 00 02 00 00 00 00" +
		"01 00 08 0c  22 06 00 00 00 0a 00  10 04 00 00 00 00 04 06 02  1c 02 04 00 00 00 04 00 aa 02  24 00 00 00 00 00 00  16 00 02 00 00 00 00  1a 00 00 00 00 04 00  28 90"},
}

func TestPutCode(t *testing.T) {
	ops := map[int]int{}
	for _, c := range codeBytes {
		code := toldCode(c.text)
		codeIs(t, c.text, code, "")
		putAndGot(t, code, toldBytes(c.bytes))
		for _, p := range piecesOf(&code) {
			for _, i := range p.Ins {
				ops[i.Op]++
			}
		}
	}
	for op := 1; op <= 18; op++ {
		if ops[op] == 0 {
			t.Error("the test's own: no Op", op)
		}
	}
}

// Each field stands in its order: a Code in which no two of an instruction's are alike.
func TestPutCodeOfEachField(t *testing.T) {
	c := toldCode("fun 7 3 20: add 11 12 13; make 14 7 15 16; call 17 18 19 7 9; ifnot 5 6; try 8 4; jump 2; ret 10 | fun 9 1 2: ret 1 | main 21: ret 20")
	numbers := []int{2, 7, 3, 20, 7, 5, 11, 12, 13, 1, 0, 0, 8, 14, 0, 0, 7, 0, 2, 15, 16, 14, 17, 18, 19, 0, 0, 2, 7, 9, 11, 0, 5, 0, 0, 6, 0, 17, 8, 0, 0, 0, 4, 0, 13, 0, 0, 0, 0, 2, 0, 15, 0, 10, 0, 0, 0, 0, 9, 1, 2, 1, 15, 0, 1, 0, 0, 0, 0, -1, 0, 21, 1, 15, 0, 20, 0, 0, 0, 0}
	var body []byte
	for _, n := range numbers {
		body = impl.PutNum(body, n)
	}
	if !slices.Equal(numbersOf(c), numbers) {
		t.Error("the test's own", numbersOf(c))
	}
	codeIs(t, "fields", c, "")
	putAndGot(t, c, framed(body))
}

// What follows: code comes back of its bytes.
func TestCodeComesBackOfItsBytes(t *testing.T) {
	t.Parallel()
	seen := map[string]string{}
	ended := map[int]int{}
	for _, c := range byteCodes(t, 1500) {
		b := asPlainBytes(t, c)
		text := codeText(c)
		if other, is := seen[string(b)]; is && other != text {
			t.Errorf("%x is put for\n%s and for\n%s", b, other, text)
		}
		seen[string(b)] = text
		back, code := impl.GetCode(b)
		if code != impl.GetGood || !impl.CodeOk(back) || impl.Count(back) != impl.Count(c) {
			t.Errorf("%s: %d", text, code)
		}
		end := impl.RunCode(back, 100)
		if end != impl.RunCode(c, 100) {
			t.Errorf("%s ends with %v", text, end)
		}
		ended[end.End]++
		if again := impl.PutCode(back); !bytes.Equal(again, b) {
			t.Errorf("%s: put again %x, not %x", text, again, b)
		}
	}
	if len(seen) < 1500 || ended[impl.EndValue] < 500 || ended[impl.EndRaise] < 500 || ended[impl.EndFuel] < 20 {
		t.Error("too few", len(seen), ended)
	}
}

// Whole programs by their texts: lowered, packed, trimmed, put, and back.
func TestProgramsComeBackOfTheirBytes(t *testing.T) {
	t.Parallel()
	for text, want := range map[string]string{
		"fix f 0 f i i fn x i if op < v x 0 n 1 n 0 op + v x 0 app v f 0 op - v x 0 n 1 app v f 0 n 10":                                                                                                              "55",
		"fix map 0 f f i i f l i l i fn f f i i fn l l i case h r v l 0 nil i cons app v f 0 v h 0 app app v map 0 v f 0 v r 0 let k 0 n 7 app app v map 0 fn z i op * v z 0 v k 0 cons n 1 cons n 2 cons n 3 nil i": "[7,14,21]",
		"let a 0 n 1 try e try g raise i op + v a 0 n 1 raise i op + v g 0 n 1 op + v e 0 v a 0":                                                                                                                     "4", "raise i n -1000000": "raise -1000000", "try e op * n 1000000 n 2 v e 0": "-1", "if op = n 1 n 1 n 64 n -65": "64",
	} {
		c := asPlainLower(t, asPlainDefun(t, parsedUnlike(t, text)))
		packed := impl.PackAll(c)
		for _, one := range []impl.Code{c, packed, impl.TrimAll(c), impl.TrimAll(packed)} {
			back, code := impl.GetCode(asPlainBytes(t, one))
			if end := impl.RunCode(back, impl.MaxFuel); code != impl.GetGood || end != ends(want) {
				t.Errorf("%s: %d and %v, not %s", text, code, end, want)
			}
			if end, _ := impl.RunMach(back, 400, 1, impl.MaxFuel); end != ends(want) {
				t.Errorf("%s on a heap: %v, not %s", text, end, want)
			}
		}
	}
}

// As much of each sort as there may be, and one more.
func TestBytesAtTheLimits(t *testing.T) {
	t.Parallel()
	ret := toldList("ret 0")
	many := impl.Code{Main: impl.Piece{Lam: -1, Regs: 400, Ins: slices.Repeat(toldList("num 399 -1000000"), 599)}}
	many.Main.Ins = append(many.Main.Ins, impl.Ins{Op: impl.OpJump, To: 599})
	var lams []int
	for lam := range 150 {
		many.Funs = append(many.Funs, impl.Piece{Lam: lam, In: 400, Regs: 400, Ins: ret})
		lams = append(lams, lam)
	}
	many.Main.Ins[7] = impl.Ins{Op: impl.OpMake, D: 399, N: 149, L: slices.Repeat([]int{399, 0, 64}, 133)}
	many.Main.Ins[8] = impl.Ins{Op: impl.OpCall, D: 399, X: 399, Y: 399, L: lams}
	many.Main.Ins[9] = impl.Ins{Op: impl.OpNum, N: 1000000}
	codeIs(t, "many", many, "")
	if b := asPlainBytes(t, many); len(b) < 6000 {
		t.Error(len(b))
	}
	for why, change := range map[string]func(c *impl.Code){
		"Lam 150":     func(c *impl.Code) { c.Funs = append(c.Funs, impl.Piece{Lam: 150, In: 1, Regs: 1, Ins: ret}) },
		"201 Funs":    func(c *impl.Code) { c.Funs = slices.Repeat(c.Funs[:1], 201) },
		"601 Ins":     func(c *impl.Code) { c.Main.Ins = append(c.Main.Ins, ret...) },
		"Regs 401":    func(c *impl.Code) { c.Main.Regs = 401 },
		"register":    func(c *impl.Code) { c.Main.Ins[0].D = 400 },
		"To 600":      func(c *impl.Code) { c.Main.Ins[599].To = 600 },
		"N too great": func(c *impl.Code) { c.Main.Ins[9].N = 1000001 },
		"N too small": func(c *impl.Code) { c.Main.Ins[9].N = -1000001 },
		"L of 398":    func(c *impl.Code) { c.Main.Ins[7].L = c.Main.Ins[7].L[1:] },
		"L of 400":    func(c *impl.Code) { c.Main.Ins[7].L = append(c.Main.Ins[7].L, 1) },
		"L of 401":    func(c *impl.Code) { c.Main.Ins[7].L = append(c.Main.Ins[7].L, 1, 1) },
		"L of 5000":   func(c *impl.Code) { c.Main.Ins[7].L = slices.Repeat([]int{1}, 5000) },
		"151 Lams":    func(c *impl.Code) { c.Main.Ins[8].L = append(c.Main.Ins[8].L, 150) },
		"5000 Ins":    func(c *impl.Code) { c.Main.Ins = slices.Repeat(ret, 5000) },
		"5000 Funs":   func(c *impl.Code) { c.Funs = slices.Repeat(c.Funs[:1], 5000) },
	} {
		c := evenCode(many)
		change(&c)
		notPut(t, why, c)
	}
}

// Each condition of a right Code, broken alone: nothing is put, and what would be is no Code.
func TestPutCodeOfWhatIsNotRight(t *testing.T) {
	t.Parallel()
	for _, c := range wrongPieces() {
		c.p.Lam = -1
		notPut(t, c.why, impl.Code{Main: c.p})
	}
	changedCodes(t, func(why string, c impl.Code, faults []string) {
		if len(faults) == 0 {
			asPlainBytes(t, c)
			return
		}
		notPut(t, why, c)
	})
}

func TestGetCodeOfTheMark(t *testing.T) {
	// fewer than 4 bytes, whatever they are
	for _, text := range []string{"", "G", "W", "GW", "GW\x00", "GW\xff", "GWG", "abc", "\x00\x00\x00"} {
		notGot(t, []byte(text), impl.GetMark)
		notGot(t, roomyBytes([]byte(text)), impl.GetMark)
	}
	notGot(t, nil, impl.GetMark)
	whole := toldBytes(codeBytes[0].bytes)
	for k := range 4 {
		notGot(t, whole[:k], impl.GetMark)
	}
	// another mark, whether the sum is right and what comes is a Code or not
	for _, mark := range []string{"gW", "Gw", "gw", "WG", "GX", "HW", "GG", "WW", "\x00W", "G\x00", "\xc7W", "G\xd7"} {
		for _, c := range codeBytes {
			b := toldBytes(c.bytes)
			copy(b, mark)
			notGot(t, b, impl.GetMark)
			notGot(t, summed(b[:len(b)-2]), impl.GetMark)
			notGot(t, summed(b[:len(b)-3]), impl.GetMark)
		}
		notGot(t, []byte(mark+"\x00\x00"), impl.GetMark)
		notGot(t, summed([]byte(mark)), impl.GetMark)
		notGot(t, []byte(mark), impl.GetMark)
	}
	for at := range 2 {
		for bit := range 8 {
			b := turnedBit(whole, at, bit)
			notGot(t, b, impl.GetMark)
			notGot(t, summed(b[:len(b)-2]), impl.GetMark)
		}
	}
	notGot(t, append([]byte{0}, whole...), impl.GetMark)
	notGot(t, whole[1:], impl.GetMark)
	notGot(t, whole[2:], impl.GetMark)
}

// Any one bit turned, of the sum and of what stands between the mark and it.
func TestGetCodeOfTheSum(t *testing.T) {
	t.Parallel()
	codes := append(anyCodes(40), everyOpCode(), trimmableCode())
	for _, c := range codeBytes {
		codes = append(codes, toldCode(c.text))
	}
	for _, c := range codes {
		b := asPlainBytes(t, c)
		for at := 2; at < len(b); at++ {
			for bit := range 8 {
				notGot(t, turnedBit(b, at, bit), impl.GetSum)
			}
		}
		// what breaks off, and what goes on
		for k := 4; k < len(b); k++ {
			if _, code := plainGetCode(b[:k]); code != impl.GetSum {
				t.Logf("%x has the sum of its bytes by chance", b[:k])
				continue
			}
			notGot(t, b[:k], impl.GetSum)
		}
		notGot(t, append(bytes.Clone(b), 0), impl.GetSum)
	}
}

// The sum is told modulo 65521, the higher byte first.
func TestGetCodeOfEachSum(t *testing.T) {
	for sum, n := range map[int]int{0: 77221, 1: 34785, 2: 140159, 3: 101690, 4: 59254, 5: 16818, 6: 84427, 7: 41991, 8: 151332, 9: 108896, 10: 66460, 11: 27991, 12: 133365, 13: 90929, 14: 52460, 65520: 115690, 65519: 10316} {
		c := toldCode(fmt.Sprintf("main 1: num 0 %d; ret 0", n))
		b := asPlainBytes(t, c)
		if end := b[len(b)-2:]; int(end[0])*256+int(end[1]) != sum {
			t.Errorf("%d has the sum %x, not %d", n, end, sum)
		}
		// the same, modulo 65521, but not modulo it
		if more := sum + 65521; more < 1<<16 {
			notGot(t, append(bytes.Clone(b[:len(b)-2]), byte(more/256), byte(more%256)), impl.GetSum)
		}
		turned := append(bytes.Clone(b[:len(b)-2]), byte(sum%256), byte(sum/256))
		if sum/256 != sum%256 {
			notGot(t, turned, impl.GetSum)
		}
	}
	// every other sum is refused
	b := toldBytes(codeBytes[1].bytes)
	right := 0
	for sum := range 1 << 16 {
		b[len(b)-2], b[len(b)-1] = byte(sum>>8), byte(sum)
		c, code := impl.GetCode(b)
		switch {
		case code == impl.GetGood && sum == 0x8256 && equalCodes(c, toldCode(codeBytes[1].text)):
			right++
		case code != impl.GetSum || !equalCodes(c, impl.Code{}):
			t.Errorf("%x: %d", sum, code)
		}
	}
	if right != 1 {
		t.Error(right)
	}
	// of no bytes but the mark
	notGot(t, []byte("GW\x00\x00"), impl.GetSum)
	notGot(t, []byte("GW\x08\xf0"), impl.GetForm)
	notGot(t, []byte("GW\xf0\x08"), impl.GetSum)
}

// The mark and the sum are right, but nobody puts this.
func TestGetCodeOfTheForm(t *testing.T) {
	t.Parallel()
	notGot(t, framed(nil), impl.GetForm)
	for _, c := range []impl.Code{everyOpCode(), toldCode(codeBytes[0].text), toldCode(codeBytes[5].text)} {
		b := asPlainBytes(t, c)
		body := b[2 : len(b)-2]
		numbers := numbersOf(c)
		// bytes too few, and numbers too few
		for k := range body {
			notGot(t, framed(body[:k]), impl.GetForm)
			notGot(t, framed(body[k+1:]), impl.GetForm)
		}
		// bytes left over
		for _, more := range []string{"00", "02", "01", "80", "ff", "7f", "00 00", "80 00", "80 01", "ff ff ff ff ff ff ff", "01 00 00 02 1a 00 00 00 00 00 00"} {
			notGot(t, framed(append(bytes.Clone(body), toldBytes(more)...)), impl.GetForm)
		}
		notGot(t, framed(slices.Concat(body, body)), impl.GetForm)
		notGot(t, framed(b), impl.GetForm)
		for at := range numbers {
			ahead, behind := bodyOf(numbers[:at]), bodyOf(numbers[at+1:])
			// put otherwise, or no number
			one := plainNum(numbers[at])
			long := slices.Clone(one)
			long[len(long)-1] |= 0x80
			for _, other := range [][]byte{append(slices.Clone(long), 0), append(slices.Clone(long), 0x80, 0), append(slices.Clone(long), 0x80, 0x80, 0x80, 0x80, 0x80, 0x80, 0x80, 0x80, 2), append(slices.Clone(long), 0x80, 0x80, 0x80, 0x80, 0x80, 0x80, 0x80, 0x80, 0), toldBytes("82 a8 d6 b9 07"), toldBytes("81 a8 d6 b9 07"), bytes.Repeat([]byte{0xff}, 12)} {
				notGot(t, framed(slices.Concat(ahead, other, behind)), impl.GetForm)
			}
			// one less, and one more; GetCode tells what it comes to
			asPlainGetCode(t, framed(slices.Concat(ahead, behind)))
			asPlainGetCode(t, framed(slices.Concat(ahead, []byte{0}, one, behind)))
		}
	}
}

// countsAt are the places of the counts among a Code's numbers.
func countsAt(c impl.Code) []int {
	all := []int{0}
	at := 1
	for _, p := range piecesOf(&c) {
		all = append(all, at+3)
		at += 4
		for _, i := range p.Ins {
			all = append(all, at+6)
			at += 7 + len(i.L)
		}
	}
	return all
}

// Counts below 0, and greater than what is there.
func TestGetCodeOfCounts(t *testing.T) {
	t.Parallel()
	for _, c := range append(anyCodes(30), everyOpCode(), toldCode(codeBytes[0].text), toldCode(codeBytes[6].text)) {
		numbers := numbersOf(c)
		for _, at := range countsAt(c) {
			is := numbers[at]
			for _, count := range []int{-1_000_000_000, -1000, -is, -is - 1, -2, -1, is - 1, is + 1, 2*is + 1, len(numbers), len(numbers) + 1, 199, 200, 201, 399, 400, 401, 599, 600, 601, 65536, 1_000_000, 999_999_999, 1_000_000_000} {
				if count == is {
					continue
				}
				changed := slices.Clone(numbers)
				changed[at] = count
				if code := asPlainGetCode(t, framed(bodyOf(changed))); code != impl.GetForm && code != impl.GetGood {
					t.Errorf("%s: %d at %d: %d", codeText(c), count, at, code)
				}
				// nothing is there
				notGot(t, framed(bodyOf(changed[:at+1])), impl.GetForm)
			}
		}
	}
	// as many as are told, of far too many
	for _, one := range [][]int{{0}, {1, 1, 1, 1, 15, 0, 0, 0, 0, 0, 0}, {13, 0, 0, 0, 0, 0, 0}} {
		for _, head := range [][]int{{5_000}, {0, -1, 0, 1, 5_000}, {0, -1, 0, 1, 1, 8, 0, 0, 0, 0, 0, 5_000}} {
			notGot(t, framed(append(bodyOf(head), bytes.Repeat(bodyOf(one), 5_000)...)), impl.GetForm)
		}
	}
}

// Each number another one: what comes is a Code or is none, as CodeOk tells.
func TestGetCodeOfEachNumber(t *testing.T) {
	t.Parallel()
	codes := map[int]int{}
	for _, c := range []impl.Code{everyOpCode(), trimmableCode(), toldCode(codeBytes[1].text), toldCode(codeBytes[6].text)} {
		numbers := numbersOf(c)
		for at, is := range numbers {
			for _, n := range []int{is - 1, is + 1, -is, 2 * is, 0, 1, -1, 2, 3, 7, 13, 15, 18, 19, 63, 64, 149, 150, 399, 400, 1_000_000, 1_000_001, -1_000_000, -1_000_001, 1_000_000_000, -1_000_000_000} {
				changed := slices.Clone(numbers)
				changed[at] = n
				codes[asPlainGetCode(t, framed(bodyOf(changed)))]++
			}
		}
	}
	if codes[impl.GetGood] < 1000 || codes[impl.GetForm] < 5000 || len(codes) != 2 {
		t.Error("too few", codes)
	}
}

// Where several hold, the mark is told ahead of the sum, and that ahead of the form.
func TestGetCodeTellsTheFirst(t *testing.T) {
	good := toldBytes(codeBytes[5].bytes)
	body := good[2 : len(good)-2]
	wrong := append(bytes.Clone(body), 0)
	for _, mark := range []string{"GW", "GV"} {
		for _, sumRight := range []bool{true, false} {
			for _, formRight := range []bool{true, false} {
				between := wrong
				if formRight {
					between = body
				}
				b := summed(append([]byte(mark), between...))
				want := impl.GetGood
				if !formRight {
					want = impl.GetForm
				}
				if !sumRight {
					b[len(b)-1] ^= 4
					want = impl.GetSum
				}
				if mark != "GW" {
					want = impl.GetMark
				}
				if code := asPlainGetCode(t, b); code != want {
					t.Errorf("%x: %d, not %d", b, code, want)
				}
			}
		}
	}
	// too few bytes for a sum and for a form
	notGot(t, []byte("GW\x08"), impl.GetMark)
	notGot(t, []byte("GW"), impl.GetMark)
	notGot(t, []byte("GX\x00\x00"), impl.GetMark)
	notGot(t, []byte("GW\x00\x01"), impl.GetSum)
}

// Bytes changed by chance, with the sum that they have, and with another one.
func TestGetCodeOfAnyBytes(t *testing.T) {
	t.Parallel()
	r := rand.New(rand.NewSource(163))
	codes := map[int]int{}
	for _, c := range append(anyCodes(400), everyOpCode()) {
		b := plainPutCode(c)
		for range 20 {
			body := bytes.Clone(b[2 : len(b)-2])
			for range 1 + r.Intn(3) {
				at := r.Intn(len(body))
				switch r.Intn(6) {
				case 0:
					body[at] = byte(r.Intn(256))
				case 1:
					body[at] += byte(2 * (r.Intn(5) - 2))
				case 2:
					body = slices.Insert(body, at, []byte{0, 1, 2, 0x80, 0xff}[r.Intn(5)])
				case 3:
					if len(body) > 1 {
						body = slices.Delete(body, at, at+1)
					}
				case 4:
					body[at] ^= 0x80
				case 5:
					other := r.Intn(len(body))
					body[at], body[other] = body[other], body[at]
				}
			}
			codes[asPlainGetCode(t, framed(body))]++
			codes[asPlainGetCode(t, slices.Concat([]byte("GW"), body, b[len(b)-2:]))]++
		}
		// one byte more by 1, the next one less by 31: the sum stays
		for at := 2; at+3 < len(b); at++ {
			if b[at] < 255 && b[at+1] >= 31 {
				same := bytes.Clone(b)
				same[at]++
				same[at+1] -= 31
				if code := asPlainGetCode(t, same); code == impl.GetSum {
					t.Errorf("%x: the sum is right", same)
				}
			}
		}
	}
	for range 3000 {
		body := make([]byte, r.Intn(40))
		for at := range body {
			body[at] = byte(r.Intn(r.Intn(256) + 1))
		}
		codes[asPlainGetCode(t, framed(body))]++
		codes[asPlainGetCode(t, body)]++
	}
	if codes[impl.GetGood] < 500 || codes[impl.GetMark] < 1000 || codes[impl.GetSum] < 3000 || codes[impl.GetForm] < 3000 {
		t.Error("too few", codes)
	}
}

// byteArguments are bytes of all sorts, right and wrong.
func byteArguments(t *testing.T) [][]byte {
	t.Helper()
	all := [][]byte{nil, {}, []byte("GW"), []byte("GX\x00\x00"), []byte("GW\x00\x00"), framed(nil)}
	for _, c := range append(anyCodes(120), everyOpCode()) {
		b := plainPutCode(c)
		all = append(all, b, turnedBit(b, len(b)-1, 0), turnedBit(b, 0, 3), framed(b[2:len(b)-3]), framed(b[2:]))
	}
	return all
}

func TestBytesArgumentsStay(t *testing.T) {
	t.Parallel()
	for _, b := range byteArguments(t) {
		roomy := roomyBytes(b)
		kept := fullBytes(roomy)
		impl.GetCode(roomy)
		for _, at := range []int{-1, 0, 1, len(b) - 1, len(b)} {
			impl.GetNum(roomy, at)
		}
		for _, c := range numCases {
			impl.PutNum(roomy, c.n)
		}
		if !bytes.Equal(fullBytes(roomy), kept) {
			t.Fatalf("an argument was written to: %x", b)
		}
	}
	for _, c := range append(codeArguments(), everyOpCode()) {
		roomy := roomyCode(c)
		kept := fullCode(roomy)
		impl.PutCode(roomy)
		if !equalCodes(fullCode(roomy), kept) {
			t.Fatal("an argument was written to", codeText(c))
		}
	}
}

// emptyBehind tells whether there is nothing but zero values in the spare room of a Code's lists.
func emptyBehind(c impl.Code) bool {
	for _, p := range c.Funs[len(c.Funs):cap(c.Funs)] {
		if !reflect.DeepEqual(p, impl.Piece{}) {
			return false
		}
	}
	for _, p := range piecesOf(&c) {
		for _, i := range p.Ins[len(p.Ins):cap(p.Ins)] {
			if !reflect.DeepEqual(i, impl.Ins{}) {
				return false
			}
		}
		for _, i := range p.Ins {
			if slices.Max(append(slices.Clone(i.L[len(i.L):cap(i.L)]), 0)) > 0 {
				return false
			}
		}
	}
	return true
}

// What lies behind a list's length is not there; it is not handed out, either.
func TestBytesSpareRoomIsNotRead(t *testing.T) {
	t.Parallel()
	for _, b := range byteArguments(t) {
		// what goes on behind the length as the bytes would
		for k := max(0, len(b)-3); k <= len(b); k++ {
			for _, roomy := range [][]byte{b[:k], roomyBytes(b[:k])} {
				asPlainGetCode(t, roomy)
				asPlainGetNum(t, roomy, k-1)
			}
		}
		put := impl.PutNum(roomyBytes(b), 5)
		if !bytes.Equal(put, append(bytes.Clone(b), 10)) {
			t.Errorf("%x behind %x", put, b)
		}
		for _, one := range put[len(put):cap(put)] {
			if one != 0 {
				t.Errorf("%x behind the answer", put[:cap(put)])
			}
		}
		c, _ := impl.GetCode(roomyBytes(b))
		if !emptyBehind(c) {
			t.Errorf("%x: something lies behind a list of the answer", b)
		}
	}
	for _, c := range append(codeArguments(), everyOpCode()) {
		if got, want := impl.PutCode(roomyCode(c)), impl.PutCode(c); !bytes.Equal(got, want) {
			t.Errorf("%s: %x, not %x", codeText(c), got, want)
		}
	}
}

func TestBytesAnswersAreNewMemory(t *testing.T) {
	t.Parallel()
	for _, b := range byteArguments(t) {
		for _, given := range [][]byte{b, roomyBytes(b)} {
			first, second := impl.PutNum(given, 64), impl.PutNum(given, -1)
			ownPlaces(t, fmt.Sprintf("PutNum of %x", b), append(bytePlaces(first), bytePlaces(second)...), bytePlaces(given))
			one, _ := impl.GetCode(given)
			two, _ := impl.GetCode(given)
			ownPlaces(t, fmt.Sprintf("GetCode of %x", b), append(codePlaces(one), codePlaces(two)...))
		}
	}
	for _, c := range append(codeArguments(), everyOpCode()) {
		ownPlaces(t, "PutCode of "+codeText(c), append(bytePlaces(impl.PutCode(c)), bytePlaces(impl.PutCode(c))...))
	}
	// what is written into an answer is in no other one
	c := everyOpCode()
	b := impl.PutCode(c)
	back, _ := impl.GetCode(b)
	put := impl.PutNum(b, 3)
	for at := range put {
		put[at] = 0xee
	}
	putAndGot(t, c, b)
	clear(b)
	if !equalCodes(back, c) {
		t.Error("a Code hangs on the bytes that it was got of")
	}
	for _, p := range piecesOf(&back) {
		for at := range p.Ins {
			for n := range p.Ins[at].L {
				p.Ins[at].L[n] = 99
			}
			p.Ins[at].Op = 77
		}
	}
	if !equalCodes(c, everyOpCode()) {
		t.Error("an answer shares memory with an argument")
	}
	asPlainBytes(t, c)
}

// Nothing is kept from one call to another, of what is refused as well.
func TestBytesKeepNothing(t *testing.T) {
	codes := append(anyCodes(200), everyOpCode())
	var put [][]byte
	for _, c := range codes {
		put = append(put, impl.PutCode(c))
	}
	for at, c := range slices.Backward(codes) {
		impl.GetCode(put[at][:len(put[at])-1])
		impl.GetCode(framed(put[at][2 : len(put[at])-4]))
		impl.PutCode(impl.Code{})
		impl.GetNum(put[at], 3)
		impl.PutNum(put[at], math.MinInt)
		putAndGot(t, c, put[at])
	}
}
