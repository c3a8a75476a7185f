package tests

import (
	"fmt"
	"reflect"
	"slices"
	"strings"
	"testing"

	"loop.example/g00187/impl"
)

// plainMetIn is what Met must answer of a right Piece, written anew: what is met grows until nothing is new.
func plainMetIn(p impl.Piece) []bool {
	met := map[int]bool{0: true}
	for before := 0; before < len(met); {
		before = len(met)
		for _, at := range setOf(met) {
			for _, next := range plainNexts(p, at) {
				met[next] = true
			}
		}
	}
	var all []bool
	for at := range p.Ins {
		all = append(all, met[at])
	}
	return all
}

// metText has a + for each that is met, and a - for each other.
func metText(met []bool) string {
	s := ""
	for _, is := range met {
		s += map[bool]string{true: "+", false: "-"}[is]
	}
	return s
}

// plainGone tells why an instruction is gone; "" is that it stays.
func plainGone(p impl.Piece, met []bool, at int) string {
	i := p.Ins[at]
	switch {
	case at+1 == len(p.Ins) || i.Op == 17 || i.Op == 18:
		return ""
	case !met[at]:
		return "not met"
	case i.Op == 4 && i.D == i.X:
		return "move"
	case i.Op == 13 && i.To == at+1:
		return "jump"
	}
	return ""
}

// stayingIn are the places of the instructions that stay, ascending.
func stayingIn(p impl.Piece) []int {
	var all []int
	met := plainMetIn(p)
	for at := range p.Ins {
		if plainGone(p, met, at) == "" {
			all = append(all, at)
		}
	}
	return all
}

// plainTrim is what Trim must answer of a right Piece, written anew.
func plainTrim(p impl.Piece) impl.Piece {
	trimmed := impl.Piece{Lam: p.Lam, In: p.In, Regs: p.Regs}
	stay := stayingIn(p)
	for _, at := range stay {
		i := p.Ins[at]
		i.L = slices.Clone(i.L)
		if strings.Contains(opFields[i.Op], "T") {
			i.To = slices.IndexFunc(stay, func(place int) bool { return place >= p.Ins[at].To })
		}
		trimmed.Ins = append(trimmed.Ins, i)
	}
	return trimmed
}

func plainTrimAll(c impl.Code) impl.Code {
	trimmed := impl.Code{Main: plainTrim(c.Main)}
	for _, p := range c.Funs {
		trimmed.Funs = append(trimmed.Funs, plainTrim(p))
	}
	return trimmed
}

// trimmedTo fails when a right Piece does not have this Met, or is not trimmed to this one, which is right too.
func trimmedTo(t *testing.T, p impl.Piece, met []bool, want impl.Piece) {
	t.Helper()
	if got := impl.Met(p); !slices.Equal(got, met) {
		t.Errorf("%s: met %s, not %s", pieceText(p), metText(got), metText(met))
	}
	got := impl.Trim(p)
	if !equalPieces(got, want) {
		t.Errorf("%s: trimmed to %s, not %s", pieceText(p), pieceText(got), pieceText(want))
	}
	if faults := pieceFaults(got); len(faults) > 0 || len(got.Ins) > len(p.Ins) {
		t.Errorf("%s: trimmed to %s, which breaks %v", pieceText(p), pieceText(got), faults)
	}
	guardsStill(t, p, got)
}

// guardsStill fails when what guards an instruction that stays does not guard it in q, which p is trimmed to.
func guardsStill(t *testing.T, p, q impl.Piece) {
	t.Helper()
	stay := stayingIn(p)
	if len(stay) != len(q.Ins) {
		return
	}
	for place, at := range stay {
		if want, got := slices.Index(stay, plainTry(p, at)), plainTry(q, place); got != want {
			t.Errorf("%s: trimmed to %s: %d is guarded by %d, not %d", pieceText(p), pieceText(q), place, got, want)
		}
	}
}

// asPlainTrim holds Met and Trim of a right Piece against the test's own.
func asPlainTrim(t *testing.T, p impl.Piece) ([]bool, impl.Piece) {
	t.Helper()
	met, want := plainMetIn(p), plainTrim(p)
	trimmedTo(t, p, met, want)
	return met, want
}

// trimCase is a right Piece as toldPiece reads it, what is met in it as metText tells it, and the Ins that it is trimmed to.
type trimCase struct{ text, met, trimmed string }

func trimmedCases(t *testing.T, cases []trimCase) {
	t.Helper()
	for _, c := range cases {
		p := toldPiece(c.text)
		want := p
		want.Ins = toldList(c.trimmed)
		met, own := asPlainTrim(t, p)
		if metText(met) != c.met || !equalPieces(own, want) || len(pieceFaults(p)) > 0 {
			t.Errorf("the test's own: %s: %s, %s, %v", c.text, metText(met), pieceText(own), pieceFaults(p))
		}
		trimmedTo(t, p, met, want)
	}
}

// notTrimmed fails when of what is not right anything is met, or it is trimmed to anything but itself.
func notTrimmed(t *testing.T, why string, p impl.Piece, faults string) {
	t.Helper()
	if own := strings.Join(pieceFaults(p), ", "); own != faults || faults == "" {
		t.Errorf("the test's own: %s: %q, not %q", why, own, faults)
	}
	kept := evenPiece(p)
	if got := impl.Met(p); len(got) != 0 {
		t.Errorf("%s: met %s", why, metText(got))
	}
	if got := impl.Trim(p); !reflect.DeepEqual(evenPiece(got), kept) {
		t.Errorf("%s: trimmed to %s", why, pieceText(got))
	}
}

// notTrimmedAll fails when TrimAll of what is not CodeOk is anything but itself.
func notTrimmedAll(t *testing.T, why string, c impl.Code) {
	t.Helper()
	kept := evenCode(c)
	if len(codeFaults(c)) == 0 {
		t.Errorf("the test's own: %s", why)
	}
	if got := impl.TrimAll(c); !reflect.DeepEqual(evenCode(got), kept) {
		t.Errorf("%s: trimmed to %s, not %s", why, codeText(got), codeText(c))
	}
}

// trimmedAll fails when TrimAll of a right Code is not as the test's own, or not right.
func trimmedAll(t *testing.T, c impl.Code) impl.Code {
	t.Helper()
	got, want := impl.TrimAll(c), plainTrimAll(c)
	if !equalCodes(got, want) {
		t.Errorf("%s trimmed to\n%s, not\n%s", codeText(c), codeText(got), codeText(want))
	}
	codeIs(t, "trimmed", got, "")
	if impl.Count(got) > impl.Count(c) {
		t.Errorf("%s trimmed to\n%s", codeText(c), codeText(got))
	}
	return got
}

// codeGlance tells a value no further than so many parts within each other: what shares its parts may be shown too long.
func codeGlance(v *codeValue, levels int) string {
	s := fmt.Sprintf("%c%d", v.kind, v.n)
	for _, part := range v.parts {
		if levels > 0 {
			s += "(" + codeGlance(part, levels-1) + ")"
		}
	}
	return s
}

// stepsSeen tells each instruction that is met, by its Piece and its place, and what the registers have then; place is -1 for one that is not to be told.
func stepsSeen(c impl.Code, place func(lam, at int) int, fuel int) ([]string, impl.Outcome) {
	var seen []string
	w := &codeWalker{code: c, fuel: fuel}
	w.ahead = func(p impl.Piece, at int, regs map[int]*codeValue, _ []int) {
		at = place(p.Lam, at)
		if at < 0 {
			return
		}
		s := fmt.Sprint(p.Lam, " at ", at, ":")
		for reg := range p.Regs {
			s += " " + codeGlance(codeRead(regs, reg), 3)
		}
		seen = append(seen, s)
	}
	return seen, w.run()
}

// stepsAsBefore fails when trimmed code does other steps than c, or with other registers, but for those that are gone.
func stepsAsBefore(t *testing.T, c, trimmed impl.Code, fuel int) {
	t.Helper()
	stay := map[int][]int{}
	for _, p := range piecesOf(&c) {
		stay[p.Lam] = stayingIn(*p)
	}
	want, end := stepsSeen(c, func(lam, at int) int { return slices.Index(stay[lam], at) }, fuel)
	got, _ := stepsSeen(trimmed, func(_, at int) int { return at }, fuel)
	if end == isFuel {
		got = got[:min(len(got), len(want))]
	}
	if !slices.Equal(got, want) {
		t.Errorf("%s trimmed to\n%s: %v, not %v", codeText(c), codeText(trimmed), got, want)
	}
}

// endsTrimmed fails when a trimmed Code ends otherwise, or takes more fuel; it tells the end, and the steps before and after.
func endsTrimmed(t *testing.T, c impl.Code, most int) (impl.Outcome, *codeWalker, *codeWalker) {
	t.Helper()
	trimmed := trimmedAll(t, c)
	want, w := plainRunCode(c, most)
	got, after := plainRunCode(trimmed, most)
	if want != isFuel && got != want || !impl.SameEnd(got, want) || after.steps > w.steps {
		t.Errorf("%s trimmed to\n%s: ends with %v in %d, not %v in %d", codeText(c), codeText(trimmed), got, after.steps, want, w.steps)
	}
	if want != isFuel && (after.caught != w.caught || after.noCase != w.noCase || after.wrong != w.wrong) {
		t.Errorf("%s trimmed to\n%s: %d caught, %d without a case, %d wrong, not %d, %d, %d", codeText(c), codeText(trimmed), after.caught, after.noCase, after.wrong, w.caught, w.noCase, w.wrong)
	}
	for fuel := range w.steps + 2 {
		is := isFuel
		if fuel >= after.steps {
			is = got
		}
		if told, was := impl.RunCode(trimmed, fuel), impl.RunCode(c, fuel); told != is || was != isFuel && told != was {
			t.Errorf("%s trimmed to\n%s: with %d it ends with %v, not %v, and before with %v", codeText(c), codeText(trimmed), fuel, told, is, was)
			break
		}
	}
	stepsAsBefore(t, c, trimmed, min(most, 200))
	return want, w, after
}

// metOnTheWay tells whether c meets nothing but what is Met in its Pieces: a raise may go on elsewhere than at the Guard.
func metOnTheWay(c impl.Code, fuel int) bool {
	met := map[int][]bool{}
	for _, p := range piecesOf(&c) {
		met[p.Lam] = plainMetIn(*p)
	}
	all := true
	w := &codeWalker{code: c, fuel: fuel}
	w.ahead = func(p impl.Piece, at int, _ map[int]*codeValue, _ []int) {
		all = all && met[p.Lam][at]
	}
	w.run()
	return all
}

// trimPieces are right Pieces, found by chance, always the same ones, in which there is much to trim.
func trimPieces(n int) []impl.Piece {
	all := triedPieces(n)
	for k, p := range all {
		for at := range p.Ins[:len(p.Ins)-1] {
			switch (k + 3*at) % 11 {
			case 0:
				p.Ins[at] = impl.Ins{Op: 13, To: at + 1}
			case 1:
				p.Ins[at] = impl.Ins{Op: 4, D: at % p.Regs, X: at % p.Regs}
			case 2:
				p.Ins[at] = impl.Ins{Op: 13, To: (at + k) % len(p.Ins)}
			case 3:
				p.Ins[at] = impl.Ins{Op: 15 + k/7%2, X: at % p.Regs}
			}
		}
	}
	return all
}

// boolPlaces are the places of all that the list holds, and of the room behind.
func boolPlaces(list []bool) []any {
	var places []any
	room := list[:cap(list)]
	for at := range room {
		places = append(places, &room[at])
	}
	return places
}
