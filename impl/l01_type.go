package impl

import (
	"strconv"
	"strings"
)

const (
	TyInt = iota + 1
	TyBool
	TyVar
	TyFun
	TyPair
	TyList
)

const MaxDepth = 6

const (
	maxTyNodes = 60
	maxTyVars  = 2
)

type Ty struct {
	K int
	N int
	A []Ty
}

func TyOk(t Ty) bool {
	return TyNodes(t) > 0
}

func TyText(t Ty) string {
	if !TyOk(t) {
		return ""
	}
	return strings.Join(tyTokens(nil, t), " ")
}

func ParseTy(s string) (Ty, bool) {
	tokens, ok := splitTokens(s, maxTyNodes)
	if !ok {
		return Ty{}, false
	}
	t, next, ok := parseTyAt(tokens, 0, MaxDepth)
	if !ok || next != len(tokens) || !TyOk(t) {
		return Ty{}, false
	}
	return t, true
}

// SameTy holds any two against each other, right or not. Only those that are
// not right can be deep without end, so the plain way is taken for the others.
func SameTy(a Ty, b Ty) bool {
	right := TyOk(a)
	if right != TyOk(b) {
		return false
	}
	if right {
		return sameRightTy(a, b)
	}
	return sameAnyTys([]twoTys{{a, b}})
}

func TyNodes(t Ty) int {
	nodes, ok := tyNodesWithin(t, MaxDepth)
	if !ok || nodes > maxTyNodes {
		return 0
	}
	return nodes
}

func Ground(t Ty) bool {
	return TyOk(t) && VarsOf(t) == 0
}

func SubstTy(t Ty, ts []Ty) (Ty, bool) {
	if !TyOk(t) || VarsOf(t) > len(ts) {
		return Ty{}, false
	}
	for _, put := range ts {
		if !TyOk(put) {
			return Ty{}, false
		}
	}
	whole := putTys(t, ts)
	if !TyOk(whole) {
		return Ty{}, false
	}
	return whole, true
}

func VarsOf(t Ty) int {
	if !TyOk(t) {
		return 0
	}
	return varsWithin(t)
}

// tyParts tells how many A a kind has; -1 of a kind that there is not.
func tyParts(kind int) int {
	switch kind {
	case TyInt, TyBool, TyVar:
		return 0
	case TyList:
		return 1
	case TyFun, TyPair:
		return 2
	}
	return -1
}

func tyNodeOk(t Ty) bool {
	if len(t.A) != tyParts(t.K) {
		return false
	}
	if t.K == TyVar {
		return t.N >= 0 && t.N < maxTyVars
	}
	return t.N == 0
}

// tyNodesWithin goes no more than levels deep: a type may hold itself.
func tyNodesWithin(t Ty, levels int) (int, bool) {
	if levels == 0 || !tyNodeOk(t) {
		return 0, false
	}
	nodes := 1
	for _, part := range t.A {
		more, ok := tyNodesWithin(part, levels-1)
		if !ok {
			return 0, false
		}
		nodes += more
	}
	return nodes, true
}

func varsWithin(t Ty) int {
	vars := 0
	if t.K == TyVar {
		vars = t.N + 1
	}
	for _, part := range t.A {
		vars = max(vars, varsWithin(part))
	}
	return vars
}

// copyTy gives each place its own lists, so that no two of an answer share any.
func copyTy(t Ty) Ty {
	return Ty{K: t.K, N: t.N, A: mapTys(t.A, copyTy)}
}

func mapTys(ts []Ty, change func(Ty) Ty) []Ty {
	if len(ts) == 0 {
		return nil
	}
	changed := make([]Ty, len(ts))
	for i, t := range ts {
		changed[i] = change(t)
	}
	return changed
}

func putTys(t Ty, ts []Ty) Ty {
	if t.K == TyVar {
		return copyTy(ts[t.N])
	}
	put := func(part Ty) Ty { return putTys(part, ts) }
	return Ty{K: t.K, N: t.N, A: mapTys(t.A, put)}
}

func sameTyNode(a Ty, b Ty) bool {
	return a.K == b.K && a.N == b.N && len(a.A) == len(b.A)
}

func sameRightTy(a Ty, b Ty) bool {
	if !sameTyNode(a, b) {
		return false
	}
	for i := range a.A {
		if !sameRightTy(a.A[i], b.A[i]) {
			return false
		}
	}
	return true
}

type twoTys struct{ a, b Ty }

// partsPair names two lists of n parts by where they lie.
type partsPair[T any] struct {
	a, b *T
	n    int
}

// sameAnyTys keeps what is left to compare in a list, not on the stack, which
// a deep type would use up; and it looks at each pair of lists once, or it
// would not end on types that hold themselves.
func sameAnyTys(left []twoTys) bool {
	seen := map[partsPair[Ty]]struct{}{}
	for len(left) > 0 {
		p := left[len(left)-1]
		left = left[:len(left)-1]
		if !sameTyNode(p.a, p.b) {
			return false
		}
		n := len(p.a.A)
		if n == 0 {
			continue
		}
		key := partsPair[Ty]{&p.a.A[0], &p.b.A[0], n}
		if _, ok := seen[key]; ok {
			continue
		}
		seen[key] = struct{}{}
		for i := range n {
			left = append(left, twoTys{p.a.A[i], p.b.A[i]})
		}
	}
	return true
}

func tyTokens(tokens []string, t Ty) []string {
	switch t.K {
	case TyInt:
		tokens = append(tokens, "i")
	case TyBool:
		tokens = append(tokens, "b")
	case TyVar:
		tokens = append(tokens, "v"+strconv.Itoa(t.N))
	case TyFun:
		tokens = append(tokens, "f")
	case TyPair:
		tokens = append(tokens, "p")
	case TyList:
		tokens = append(tokens, "l")
	}
	for _, part := range t.A {
		tokens = tyTokens(tokens, part)
	}
	return tokens
}

// splitTokens refuses more than most tokens, so that a long text that can't be
// right is not read to its end.
func splitTokens(s string, most int) ([]string, bool) {
	var tokens []string
	start := 0
	for i, r := range s {
		if r != ' ' {
			continue
		}
		if i == start || len(tokens) == most {
			return nil, false
		}
		tokens = append(tokens, s[start:i])
		start = i + 1
	}
	if start == len(s) || len(tokens) == most {
		return nil, false
	}
	return append(tokens, s[start:]), true
}

func tyOfToken(token string) (Ty, bool) {
	switch token {
	case "i":
		return Ty{K: TyInt}, true
	case "b":
		return Ty{K: TyBool}, true
	case "v0":
		return Ty{K: TyVar}, true
	case "v1":
		return Ty{K: TyVar, N: 1}, true
	case "f":
		return Ty{K: TyFun}, true
	case "p":
		return Ty{K: TyPair}, true
	case "l":
		return Ty{K: TyList}, true
	}
	return Ty{}, false
}

// parseTyAt reads the type whose tokens begin at this place, no more than
// levels deep, and tells the place behind it.
func parseTyAt(tokens []string, at int, levels int) (Ty, int, bool) {
	if levels == 0 || at == len(tokens) {
		return Ty{}, 0, false
	}
	t, ok := tyOfToken(tokens[at])
	if !ok {
		return Ty{}, 0, false
	}
	at++
	for range tyParts(t.K) {
		part, next, ok := parseTyAt(tokens, at, levels-1)
		if !ok {
			return Ty{}, 0, false
		}
		t.A = append(t.A, part)
		at = next
	}
	return t, at, true
}
