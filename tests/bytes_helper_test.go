package tests

import (
	"bytes"
	"encoding/hex"
	"math/big"
	"math/bits"
	"slices"
	"strings"
	"testing"

	"loop.example/g00187/impl"
)

// toldBytes reads bytes as two hexadecimal digits each, blanks left aside.
func toldBytes(text string) []byte {
	b, err := hex.DecodeString(strings.ReplaceAll(text, " ", ""))
	if err != nil {
		panic("the test's own: " + text)
	}
	return b
}

// plainNum is the bytes that PutNum must put, written anew: how many there are is known ahead.
func plainNum(n int) []byte {
	const most = 1_000_000_000
	if n > most {
		n = most
	} else if n < -most {
		n = -most
	}
	m := uint64(2 * n)
	if n < 0 {
		m = uint64(-2*n - 1)
	}
	b := make([]byte, max(1, (bits.Len64(m)+6)/7))
	for at := range b {
		b[at] = byte(m>>(7*at))&127 | 128
	}
	b[len(b)-1] &= 127
	return b
}

// plainGetNum is what GetNum must answer, written anew: of any number of groups, however great.
func plainGetNum(b []byte, at int) (int, int, bool) {
	if at < 0 || at >= len(b) {
		return 0, 0, false
	}
	behind := at
	for behind < len(b) && b[behind] >= 128 {
		behind++
	}
	if behind == len(b) || b[behind] == 0 && behind > at {
		return 0, 0, false
	}
	behind++
	m := new(big.Int)
	for _, one := range slices.Backward(b[at:behind]) {
		m.Add(m.Lsh(m, 7), big.NewInt(int64(one%128)))
	}
	half, odd := new(big.Int).DivMod(m, big.NewInt(2), new(big.Int))
	if odd.Sign() > 0 {
		half.Not(half)
	}
	if half.CmpAbs(big.NewInt(1_000_000_000)) > 0 {
		return 0, 0, false
	}
	return int(half.Int64()), behind, true
}

// plainSum goes from the last byte to the first, by powers of 31.
func plainSum(b []byte) int {
	sum, power := 0, 1
	for _, one := range slices.Backward(b) {
		sum += int(one) * power % 65521
		power = power * 31 % 65521
	}
	return sum % 65521
}

// summed is b and its sum behind it.
func summed(b []byte) []byte {
	sum := plainSum(b)
	return append(bytes.Clone(b), byte(sum/256), byte(sum%256))
}

// framed is what stands between the mark and the sum, with both.
func framed(body []byte) []byte {
	return summed(append([]byte{'G', 'W'}, body...))
}

// numbersOf are the numbers of a Code, right or wrong, in their order.
func numbersOf(c impl.Code) []int {
	all := []int{len(c.Funs)}
	for _, p := range piecesOf(&c) {
		all = append(all, p.Lam, p.In, p.Regs, len(p.Ins))
		for _, i := range p.Ins {
			all = append(all, i.Op, i.D, i.X, i.Y, i.N, i.To, len(i.L))
			all = append(all, i.L...)
		}
	}
	return all
}

// bodyOf is numbers as bytes.
func bodyOf(numbers []int) []byte {
	var b []byte
	for _, n := range numbers {
		b = append(b, plainNum(n)...)
	}
	return b
}

// plainPutCode is what PutCode must answer, written anew.
func plainPutCode(c impl.Code) []byte {
	if len(codeFaults(c)) > 0 {
		return nil
	}
	return framed(bodyOf(numbersOf(c)))
}

// numberList hands out one number after the other; what it has not is over.
type numberList struct {
	numbers []int
	over    bool
}

func (l *numberList) next() int {
	if len(l.numbers) == 0 {
		l.over = true
		return 0
	}
	n := l.numbers[0]
	l.numbers = l.numbers[1:]
	return n
}

// count is 0 where there can't be as many.
func (l *numberList) count() int {
	n := l.next()
	if n < 0 || n > len(l.numbers) {
		l.over = true
		return 0
	}
	return n
}

func (l *numberList) piece() impl.Piece {
	p := impl.Piece{}
	p.Lam = l.next()
	p.In = l.next()
	p.Regs = l.next()
	for range l.count() {
		i := impl.Ins{}
		for _, field := range []*int{&i.Op, &i.D, &i.X, &i.Y, &i.N, &i.To} {
			*field = l.next()
		}
		for range l.count() {
			i.L = append(i.L, l.next())
		}
		p.Ins = append(p.Ins, i)
	}
	return p
}

// plainGetCode is what GetCode must answer, written anew: all numbers are read ahead of what they mean.
func plainGetCode(b []byte) (impl.Code, int) {
	if len(b) < 4 || !bytes.HasPrefix(b, []byte("GW")) {
		return impl.Code{}, 1
	}
	body := b[2 : len(b)-2]
	if !bytes.Equal(framed(body), b) {
		return impl.Code{}, 2
	}
	var l numberList
	for at := 0; at < len(body); {
		n, behind, ok := plainGetNum(body, at)
		if !ok {
			return impl.Code{}, 3
		}
		l.numbers = append(l.numbers, n)
		at = behind
	}
	var c impl.Code
	for range l.count() {
		c.Funs = append(c.Funs, l.piece())
	}
	c.Main = l.piece()
	if l.over || len(l.numbers) > 0 || len(codeFaults(c)) > 0 {
		return impl.Code{}, 3
	}
	return c, 0
}

// putsNum fails when PutNum does not put these bytes behind b, whatever room it has, or writes to it.
func putsNum(t *testing.T, b []byte, n int, want []byte) {
	t.Helper()
	if own := plainNum(n); !bytes.Equal(own, want) {
		t.Errorf("the test's own: %d: %x, not %x", n, own, want)
	}
	for _, given := range [][]byte{b, roomyBytes(b)} {
		kept := fullBytes(given)
		if got := impl.PutNum(given, n); !bytes.Equal(got, slices.Concat(b, want)) {
			t.Errorf("PutNum(%x, %d): %x, not %x behind it", b, n, got, want)
		}
		if !bytes.Equal(fullBytes(given), kept) {
			t.Errorf("PutNum(%x, %d): it was written to", b, n)
		}
	}
}

// getsNum fails when GetNum does not tell this; where ok is false the others are 0.
func getsNum(t *testing.T, b []byte, at int, n, behind int, ok bool) {
	t.Helper()
	if ownN, ownBehind, ownOk := plainGetNum(b, at); ownN != n || ownBehind != behind || ownOk != ok {
		t.Errorf("the test's own: %x at %d: %d, %d, %v, not %d, %d, %v", b, at, ownN, ownBehind, ownOk, n, behind, ok)
	}
	if gotN, gotBehind, gotOk := impl.GetNum(b, at); gotN != n || gotBehind != behind || gotOk != ok {
		t.Errorf("GetNum(%x, %d): %d, %d, %v, not %d, %d, %v", b, at, gotN, gotBehind, gotOk, n, behind, ok)
	}
}

// asPlainGetNum holds GetNum against the test's own.
func asPlainGetNum(t *testing.T, b []byte, at int) bool {
	t.Helper()
	n, behind, ok := plainGetNum(b, at)
	getsNum(t, b, at, n, behind, ok)
	return ok
}

// putAndGot fails when a right Code is not put as these bytes, or does not come back of them.
func putAndGot(t *testing.T, c impl.Code, want []byte) {
	t.Helper()
	if own := plainPutCode(c); !bytes.Equal(own, want) || len(codeFaults(c)) > 0 {
		t.Errorf("the test's own: %s%x, not %x", codeText(c), own, want)
	}
	if got := impl.PutCode(c); !bytes.Equal(got, want) {
		t.Errorf("PutCode of %s%x, not %x", codeText(c), got, want)
	}
	gotCode(t, want, c, impl.GetGood)
}

// gotCode fails when GetCode does not tell this.
func gotCode(t *testing.T, b []byte, c impl.Code, code int) {
	t.Helper()
	if own, ownCode := plainGetCode(b); ownCode != code || !equalCodes(own, c) {
		t.Errorf("the test's own: %x: %d and %s, not %d", b, ownCode, codeText(own), code)
	}
	if got, gotCode := impl.GetCode(b); gotCode != code || !equalCodes(got, c) {
		t.Errorf("GetCode(%x): %d and %s, not %d and %s", b, gotCode, codeText(got), code, codeText(c))
	}
}

// notGot fails when GetCode does not tell this code and nothing else.
func notGot(t *testing.T, b []byte, code int) {
	t.Helper()
	gotCode(t, b, impl.Code{}, code)
}

// asPlainBytes holds PutCode and GetCode of a right Code against the test's own.
func asPlainBytes(t *testing.T, c impl.Code) []byte {
	t.Helper()
	b := plainPutCode(c)
	putAndGot(t, c, b)
	return b
}

// asPlainGetCode holds GetCode against the test's own.
func asPlainGetCode(t *testing.T, b []byte) int {
	t.Helper()
	c, code := plainGetCode(b)
	gotCode(t, b, c, code)
	return code
}

// notPut fails when PutCode of what is not right tells anything, or its numbers, put as PutCode would, are taken for a Code.
func notPut(t *testing.T, why string, c impl.Code) {
	t.Helper()
	if len(codeFaults(c)) == 0 {
		t.Errorf("the test's own: %s", why)
	}
	if got := impl.PutCode(c); len(got) != 0 {
		t.Errorf("%s: PutCode is %x", why, got)
	}
	notGot(t, framed(bodyOf(numbersOf(c))), impl.GetForm)
}

// roomyBytes is b with spare room behind it that holds something.
func roomyBytes(b []byte) []byte {
	return slices.Concat(b, []byte{'G', 'W', 0x80, 0, 1, 0x55, 0xaa, 7, 7, 7})[:len(b)]
}

// fullBytes copies b, as long as its room.
func fullBytes(b []byte) []byte { return bytes.Clone(b[:cap(b)]) }

// bytePlaces are the places of all bytes, and of the room behind.
func bytePlaces(b []byte) []any {
	var places []any
	room := b[:cap(b)]
	for at := range room {
		places = append(places, &room[at])
	}
	return places
}

// turnedBit is b with one bit turned.
func turnedBit(b []byte, at int, bit int) []byte {
	turned := bytes.Clone(b)
	turned[at] ^= 1 << bit
	return turned
}

// everyOpCode has each Op, numbers of more than one byte, and lists of none, one and several.
func everyOpCode() impl.Code {
	c := fullerCode()
	c.Funs[0].Lam, c.Funs[2].Lam = 3, 149
	c.Main.Regs = 400
	c.Main.Ins[4].L = []int{3, 7, 149}
	c.Main.Ins[13].X = 399
	return c
}

// byteCodes are right Codes of all sorts: lowered, packed, trimmed, and found by chance.
func byteCodes(t *testing.T, n int) []impl.Code {
	t.Helper()
	all := append(anyCodes(n), everyOpCode(), fullerCode(), trimmableCode())
	all = append(all, strayCodes(n/4)...)
	for _, c := range loweredCodes(t, n/4) {
		packed := impl.PackAll(c)
		all = append(all, c, packed, impl.TrimAll(packed), impl.TrimAll(c))
	}
	return all
}
