package tests

import (
	"math"
	"slices"
	"strings"
	"testing"

	"loop.example/g00187/impl"
)

// plainLeaders is what Leaders must answer of a right Piece, written anew.
func plainLeaders(p impl.Piece) []int {
	begins := map[int]bool{0: true}
	for at, i := range p.Ins {
		ends := i.Op == 14 || i.Op == 15 || i.Op == 16
		if strings.Contains(opFields[i.Op], "T") {
			begins[i.To] = true
			ends = true
		}
		if ends && at+1 < len(p.Ins) {
			begins[at+1] = true
		}
	}
	return setOf(begins)
}

// plainBlocks are the blocks of all instructions of a right Piece.
func plainBlocks(p impl.Piece) []int {
	var all []int
	leaders := plainLeaders(p)
	block := -1
	for at := range p.Ins {
		if slices.Contains(leaders, at) {
			block++
		}
		all = append(all, block)
	}
	return all
}

// plainBlockNexts is what BlockNexts must answer of each block of a right Piece, written anew.
func plainBlockNexts(p impl.Piece) [][]int {
	blocks := plainBlocks(p)
	nexts := make([]map[int]bool, len(plainLeaders(p)))
	for b := range nexts {
		nexts[b] = map[int]bool{}
	}
	for at, block := range blocks {
		for _, next := range plainNexts(p, at) {
			if next != at+1 || blocks[next] != block {
				nexts[block][blocks[next]] = true
			}
		}
	}
	var all [][]int
	for _, set := range nexts {
		all = append(all, setOf(set))
	}
	return all
}

// plainAhead is what Ahead must answer of each instruction of a right Piece, written anew: all are ahead of each, till a way comes from one that they are not ahead of.
func plainAhead(p impl.Piece) [][]int {
	met := plainMetIn(p)
	from := make([][]int, len(p.Ins))
	ahead := make([][]bool, len(p.Ins))
	for at := range p.Ins {
		ahead[at] = slices.Clone(met)
		for _, next := range plainNexts(p, at) {
			if met[at] {
				from[next] = append(from[next], at)
			}
		}
	}
	ahead[0] = make([]bool, len(p.Ins))
	ahead[0][0] = true
	for less := true; less; {
		less = false
		for at := range p.Ins {
			for j := range p.Ins {
				if j != at && ahead[at][j] && slices.ContainsFunc(from[at], func(f int) bool { return !ahead[f][j] }) {
					ahead[at][j] = false
					less = true
				}
			}
		}
	}
	all := make([][]int, len(p.Ins))
	for at, is := range ahead {
		for j := range is {
			if met[at] && is[j] {
				all[at] = append(all[at], j)
			}
		}
	}
	return all
}

// eachWay hands out each way from the first one to the i-th that meets none twice.
func eachWay(p impl.Piece, i int, way []int, look func(way []int)) {
	at := way[len(way)-1]
	if at == i {
		look(way)
		return
	}
	for _, next := range plainNexts(p, at) {
		if !slices.Contains(way, next) {
			eachWay(p, i, append(slices.Clone(way), next), look)
		}
	}
}

// aheadByWays is what Ahead must answer as the document says it: what is met on each way; for small Pieces alone.
func aheadByWays(p impl.Piece, i int) []int {
	ways := 0
	count := map[int]int{}
	eachWay(p, i, []int{0}, func(way []int) {
		ways++
		for _, at := range way {
			count[at]++
		}
	})
	all := map[int]bool{}
	for at, n := range count {
		if n == ways {
			all[at] = true
		}
	}
	return setOf(all)
}

// plainPressure is what Pressure must answer of a right Piece, written anew.
func plainPressure(p impl.Piece) int {
	most := p.In
	for _, list := range plainLive(p) {
		if len(list) > most {
			most = len(list)
		}
	}
	return most
}

// blocking is what all functions of the chapter tell of a Piece: of each instruction its block and what is ahead of it, of each block its nexts.
type blocking struct {
	leaders, blocks []int
	nexts, ahead    [][]int
	pressure        int
}

func plainBlocking(p impl.Piece) blocking {
	return blocking{plainLeaders(p), plainBlocks(p), plainBlockNexts(p), plainAhead(p), plainPressure(p)}
}

func (b blocking) same(c blocking) bool {
	return slices.Equal(b.leaders, c.leaders) && slices.Equal(b.blocks, c.blocks) && sameLists(b.nexts, c.nexts) && sameLists(b.ahead, c.ahead) && b.pressure == c.pressure
}

// tellsBlocks asks all functions of the chapter, at each instruction and each block.
func tellsBlocks(p impl.Piece) blocking {
	b := blocking{leaders: impl.Leaders(p), pressure: impl.Pressure(p)}
	for at := range p.Ins {
		b.blocks = append(b.blocks, impl.BlockOf(p, at))
		b.ahead = append(b.ahead, impl.Ahead(p, at))
	}
	for block := range b.leaders {
		b.nexts = append(b.nexts, impl.BlockNexts(p, block))
	}
	return b
}

// noPlaces are numbers of no instruction, and of no block, of a Piece with this many.
func noPlaces(many int) []int {
	return []int{-1, many, -2, many + 1, -many - 1, 601, -600, 1 << 32, -1 << 32, math.MaxInt, math.MaxInt - 1, math.MinInt, math.MinInt + 1}
}

// blockedTo fails when the functions of the chapter do not tell this of a Piece, or tell anything of an instruction or a block that is none; it hands out what they tell.
func blockedTo(t *testing.T, p impl.Piece, want blocking) blocking {
	t.Helper()
	got := tellsBlocks(p)
	if !got.same(want) {
		t.Errorf("%s: %+v, not %+v", pieceText(p), got, want)
	}
	for _, i := range noPlaces(len(p.Ins)) {
		if b, ahead := impl.BlockOf(p, i), impl.Ahead(p, i); b != -1 || len(ahead) != 0 {
			t.Errorf("%s: block %d and ahead %v of %d", pieceText(p), b, ahead, i)
		}
	}
	for _, b := range noPlaces(len(want.leaders)) {
		if nexts := impl.BlockNexts(p, b); len(nexts) != 0 {
			t.Errorf("%s: nexts %v of block %d", pieceText(p), nexts, b)
		}
	}
	return got
}

// asPlainBlocks holds all functions of the chapter against the test's own, and what follows.
func asPlainBlocks(t *testing.T, p impl.Piece) blocking {
	t.Helper()
	want := plainBlocking(p)
	got := blockedTo(t, p, want)
	blocksPart(t, p)
	aheadHolds(t, p, got.ahead)
	pressureHolds(t, p)
	return want
}

// blocksPart fails when an instruction is in no block or in another than that of the last leader at it or ahead of it, or a block goes on where none is.
func blocksPart(t *testing.T, p impl.Piece) {
	t.Helper()
	leaders := impl.Leaders(p)
	last, led := -1, 0
	for at := range p.Ins {
		if slices.Contains(leaders, at) {
			last++
			led++
		}
		if got := impl.BlockOf(p, at); got != last {
			t.Errorf("%s: block %d of %d, not %d", pieceText(p), got, at, last)
		}
	}
	if led != len(leaders) || leaders[0] != 0 || !slices.IsSorted(leaders) {
		t.Errorf("%s: leaders %v", pieceText(p), leaders)
	}
	for b := range leaders {
		nexts := impl.BlockNexts(p, b)
		for n, next := range nexts {
			if next < 0 || next >= len(leaders) || n > 0 && nexts[n-1] >= next {
				t.Errorf("%s: nexts %v of block %d", pieceText(p), nexts, b)
			}
		}
	}
}

// aheadHolds fails when of one that is Met the first one, itself, its leader, or what is ahead of what is ahead is not ahead, or of another anything is.
func aheadHolds(t *testing.T, p impl.Piece, ahead [][]int) {
	t.Helper()
	leaders := impl.Leaders(p)
	for at, is := range impl.Met(p) {
		if !is {
			if len(ahead[at]) != 0 {
				t.Errorf("%s: %v ahead of %d", pieceText(p), ahead[at], at)
			}
			continue
		}
		for _, one := range []int{0, at, leaders[impl.BlockOf(p, at)]} {
			if !slices.Contains(ahead[at], one) {
				t.Errorf("%s: %v ahead of %d, without %d", pieceText(p), ahead[at], at, one)
			}
		}
		has := make([]bool, len(p.Ins))
		for n, one := range ahead[at] {
			has[one] = true
			if n > 0 && ahead[at][n-1] >= one || len(ahead[one]) == 0 {
				t.Errorf("%s: %v ahead of %d", pieceText(p), ahead[at], at)
			}
		}
		for _, one := range ahead[at] {
			for _, further := range ahead[one] {
				if !has[further] {
					t.Errorf("%s: %v ahead of %d, %v ahead of %d", pieceText(p), ahead[at], at, ahead[one], one)
				}
			}
		}
	}
}

// pressureHolds fails when Pressure is less than In, or more than the registers, packed or not; or when it is another once it is packed.
func pressureHolds(t *testing.T, p impl.Piece) {
	t.Helper()
	packed := impl.Pack(p)
	got := impl.Pressure(p)
	if got < p.In || got > p.Regs || got > packed.Regs || impl.Pressure(packed) != got {
		t.Errorf("%s: pressure %d, packed to %s: %d", pieceText(p), got, pieceText(packed), impl.Pressure(packed))
	}
}

// blockCase is a right Piece as toldPiece reads it, its leaders, the block of each instruction, the nexts of each block, what is ahead of each instruction, and the pressure.
type blockCase struct {
	text, leaders, blocks, nexts, ahead string
	pressure                            int
}

func blockedCases(t *testing.T, cases []blockCase) {
	t.Helper()
	for _, c := range cases {
		p := toldPiece(c.text)
		want := blocking{toldNumbers(c.leaders), toldNumbers(c.blocks), toldLists(c.nexts), toldLists(c.ahead), c.pressure}
		if own := asPlainBlocks(t, p); !own.same(want) || len(pieceFaults(p)) > 0 {
			t.Errorf("the test's own: %s: %+v, not %+v, %v", c.text, own, want, pieceFaults(p))
		}
		blockedTo(t, p, want)
		if len(p.Ins) <= 10 {
			aheadAsByWays(t, p)
		}
	}
}

func aheadAsByWays(t *testing.T, p impl.Piece) {
	t.Helper()
	for at := range p.Ins {
		if got, want := impl.Ahead(p, at), aheadByWays(p, at); !slices.Equal(got, want) {
			t.Errorf("%s: %v ahead of %d, not %v", pieceText(p), got, at, want)
		}
	}
}

// notBlocked fails when of what is not right anything is told.
func notBlocked(t *testing.T, why string, p impl.Piece, faults string) {
	t.Helper()
	if own := strings.Join(pieceFaults(p), ", "); own != faults || faults == "" {
		t.Errorf("the test's own: %s: %q, not %q", why, own, faults)
	}
	if leaders, pressure := impl.Leaders(p), impl.Pressure(p); len(leaders) != 0 || pressure != 0 {
		t.Errorf("%s: leaders %v, pressure %d", why, leaders, pressure)
	}
	asked := noPlaces(len(p.Ins))
	for at := range min(len(p.Ins)+1, 30) {
		asked = append(asked, at)
	}
	for _, n := range asked {
		if block, nexts, ahead := impl.BlockOf(p, n), impl.BlockNexts(p, n), impl.Ahead(p, n); block != -1 || len(nexts) != 0 || len(ahead) != 0 {
			t.Errorf("%s: block %d, nexts %v, ahead %v of %d", why, block, nexts, ahead, n)
		}
	}
}
