package tests

import (
	"reflect"
	"strings"
	"testing"

	"loop.example/g00187/impl"
)

var (
	tyInt  = impl.Ty{K: impl.TyInt}
	tyBool = impl.Ty{K: impl.TyBool}
	tyV0   = impl.Ty{K: impl.TyVar}
	tyV1   = impl.Ty{K: impl.TyVar, N: 1}
)

func tyFun(a, b impl.Ty) impl.Ty  { return impl.Ty{K: impl.TyFun, A: []impl.Ty{a, b}} }
func tyPair(a, b impl.Ty) impl.Ty { return impl.Ty{K: impl.TyPair, A: []impl.Ty{a, b}} }
func tyList(a impl.Ty) impl.Ty    { return impl.Ty{K: impl.TyList, A: []impl.Ty{a}} }

// tyLists puts n lists around t.
func tyLists(n int, t impl.Ty) impl.Ty {
	for range n {
		t = tyList(t)
	}
	return t
}

// tyTree is a tree of pairs with all its ends at this depth; ends gives them from the front.
func tyTree(depth int, ends func() impl.Ty) impl.Ty {
	if depth == 1 {
		return ends()
	}
	first := tyTree(depth-1, ends)
	return tyPair(first, tyTree(depth-1, ends))
}

// tyOfNodes has 47 .. 63 nodes, and the depth MaxDepth.
func tyOfNodes(nodes int) impl.Ty {
	pairs := nodes - 47
	return tyTree(5, func() impl.Ty {
		if pairs > 0 {
			pairs--
			return tyPair(tyInt, tyV0)
		}
		return tyList(tyBool)
	})
}

// tyHoldsItself is a list of itself, without end.
func tyHoldsItself() impl.Ty {
	parts := make([]impl.Ty, 1)
	parts[0] = impl.Ty{K: impl.TyList, A: parts}
	return parts[0]
}

// tyRound is a list of itself too, but of several nodes before it comes round.
func tyRound(nodes int) impl.Ty {
	parts := make([]impl.Ty, 1)
	parts[0] = impl.Ty{K: impl.TyList, A: parts}
	for range nodes - 1 {
		parts[0] = impl.Ty{K: impl.TyList, A: []impl.Ty{parts[0]}}
	}
	return parts[0]
}

// tyShared has 2^n ends, all of them at one place.
func tyShared(n int, t impl.Ty) impl.Ty {
	for range n {
		t = tyPair(t, t)
	}
	return t
}

// smallTys are all types of at most this depth.
func smallTys(depth int) []impl.Ty {
	all := []impl.Ty{tyInt, tyBool, tyV0, tyV1}
	if depth == 1 {
		return all
	}
	less := smallTys(depth - 1)
	for _, a := range less {
		all = append(all, tyList(a))
		for _, b := range less {
			all = append(all, tyFun(a, b), tyPair(a, b))
		}
	}
	return all
}

// wrongTys are not TyOk, each for another reason.
func wrongTys() map[string]impl.Ty {
	return map[string]impl.Ty{
		"zero":                 {},
		"kind -1":              {K: -1},
		"kind 7":               {K: impl.TyList + 1},
		"kind 7 with a part":   {K: impl.TyList + 1, A: []impl.Ty{tyInt}},
		"kind 0 with a part":   {A: []impl.Ty{tyInt}},
		"number of int":        {K: impl.TyInt, N: 1},
		"number of bool":       {K: impl.TyBool, N: -1},
		"number of fun":        {K: impl.TyFun, N: 1, A: []impl.Ty{tyInt, tyInt}},
		"number of pair":       {K: impl.TyPair, N: 1, A: []impl.Ty{tyInt, tyInt}},
		"number of list":       {K: impl.TyList, N: 1, A: []impl.Ty{tyInt}},
		"part of int":          {K: impl.TyInt, A: []impl.Ty{tyInt}},
		"part of bool":         {K: impl.TyBool, A: []impl.Ty{tyInt}},
		"part of var":          {K: impl.TyVar, A: []impl.Ty{tyInt}},
		"var 2":                {K: impl.TyVar, N: 2},
		"var -1":               {K: impl.TyVar, N: -1},
		"fun of none":          {K: impl.TyFun},
		"fun of one":           {K: impl.TyFun, A: []impl.Ty{tyInt}},
		"fun of three":         {K: impl.TyFun, A: []impl.Ty{tyInt, tyInt, tyInt}},
		"pair of none":         {K: impl.TyPair},
		"pair of one":          {K: impl.TyPair, A: []impl.Ty{tyInt}},
		"pair of three":        {K: impl.TyPair, A: []impl.Ty{tyInt, tyInt, tyInt}},
		"list of none":         {K: impl.TyList},
		"list of two":          {K: impl.TyList, A: []impl.Ty{tyInt, tyInt}},
		"list of many":         {K: impl.TyList, A: make([]impl.Ty, 100000)},
		"zero far within":      tyLists(5, impl.Ty{}),
		"var 2 far within":     tyLists(5, impl.Ty{K: impl.TyVar, N: 2}),
		"last of a tree":       wrongLast(),
		"depth 7":              tyLists(6, tyInt),
		"depth 7 in the last":  tyPair(tyInt, tyLists(5, tyV0)),
		"depth 7, fun":         tyFun(tyLists(5, tyV0), tyInt),
		"depth 7, tree":        tyTree(7, func() impl.Ty { return tyInt }),
		"61 nodes":             tyOfNodes(61),
		"62 nodes":             tyOfNodes(62),
		"63 nodes":             tyOfNodes(63),
		"deep":                 tyLists(100000, tyInt),
		"holds itself":         tyHoldsItself(),
		"holds itself by five": tyRound(5),
		"shared without end":   tyShared(200, tyInt),
	}
}

func wrongLast() impl.Ty {
	ends := 0
	return tyTree(5, func() impl.Ty {
		ends++
		if ends == 16 {
			return impl.Ty{K: impl.TyBool, N: 1}
		}
		return tyInt
	})
}

// plainText is what TyText must answer, written anew.
func plainText(t impl.Ty) string {
	names := []string{"", "i", "b", "v", "f", "p", "l"}
	s := names[t.K]
	if t.K == impl.TyVar {
		s += []string{"0", "1"}[t.N]
	}
	for _, a := range t.A {
		s += " " + plainText(a)
	}
	return s
}

// keepTy copies t with all that lies behind its lists' lengths.
func keepTy(t impl.Ty) impl.Ty {
	return impl.Ty{K: t.K, N: t.N, A: keepTys(t.A)}
}

func keepTys(ts []impl.Ty) []impl.Ty {
	if ts == nil {
		return nil
	}
	kept := make([]impl.Ty, cap(ts))
	for i, t := range ts[:cap(ts)] {
		kept[i] = keepTy(t)
	}
	return kept[:len(ts)]
}

// roomyTy is t, each of its lists with spare room behind it that holds something.
func roomyTy(t impl.Ty) impl.Ty {
	parts := make([]impl.Ty, len(t.A), len(t.A)+2)
	for i, a := range t.A {
		parts[i] = roomyTy(a)
	}
	room := parts[:cap(parts)]
	room[len(parts)] = impl.Ty{K: 77, N: 5}
	room[len(parts)+1] = tyList(tyBool)
	return impl.Ty{K: t.K, N: t.N, A: parts}
}

func roomyTys(ts []impl.Ty) []impl.Ty {
	return roomyTy(impl.Ty{A: ts}).A
}

func unchanged(ts, kept []impl.Ty) bool {
	return len(ts) == len(kept) && cap(ts) == cap(kept) && reflect.DeepEqual(ts[:cap(ts)], kept[:cap(kept)]) &&
		!differentRoom(ts[:cap(ts)], kept[:cap(kept)])
}

// differentRoom looks behind the lengths of the lists within, where DeepEqual does not.
func differentRoom(ts, kept []impl.Ty) bool {
	for i := range ts {
		if !unchanged(ts[i].A, kept[i].A) {
			return true
		}
	}
	return false
}

// partsOf are all lists within t, from the front.
func partsOf(t impl.Ty) [][]impl.Ty {
	var lists [][]impl.Ty
	if cap(t.A) > 0 {
		lists = append(lists, t.A)
	}
	for _, a := range t.A {
		lists = append(lists, partsOf(a)...)
	}
	return lists
}

// ownMemory fails when two lists of the answer share memory, or one of them and a list of an argument do.
func ownMemory(t *testing.T, what string, answer impl.Ty, arguments ...impl.Ty) {
	t.Helper()
	seen := map[*impl.Ty]bool{}
	for _, a := range arguments {
		for _, list := range partsOf(a) {
			for i := range list[:cap(list)] {
				seen[&list[:cap(list)][i]] = true
			}
		}
	}
	for _, list := range partsOf(answer) {
		for i := range list[:cap(list)] {
			place := &list[:cap(list)][i]
			if seen[place] {
				t.Errorf("%s: a list of the answer shares its memory", what)
				return
			}
			seen[place] = true
		}
	}
}

func parsed(t *testing.T, s string) impl.Ty {
	t.Helper()
	x, ok := impl.ParseTy(s)
	if !ok {
		t.Fatalf("ParseTy(%q) refused", s)
	}
	return x
}

func zeroTy(t impl.Ty) bool { return t.K == 0 && t.N == 0 && len(t.A) == 0 }

// putInText is the text of a type with others put for its variables, found by tokens alone.
func putInText(text string, puts []string) string {
	tokens := strings.Split(text, " ")
	for i, token := range tokens {
		if token == "v0" {
			tokens[i] = puts[0]
		} else if token == "v1" {
			tokens[i] = puts[1]
		}
	}
	return strings.Join(tokens, " ")
}
