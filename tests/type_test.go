package tests

import (
	"math"
	"reflect"
	"strings"
	"testing"

	"loop.example/g00187/impl"
)

func TestTypeConstants(t *testing.T) {
	got := []int{impl.TyInt, impl.TyBool, impl.TyVar, impl.TyFun, impl.TyPair, impl.TyList, impl.MaxDepth}
	if want := []int{1, 2, 3, 4, 5, 6, 6}; !reflect.DeepEqual(got, want) {
		t.Error(got, want)
	}
}

func TestTypeOrdinary(t *testing.T) {
	for _, c := range []struct {
		ty          impl.Ty
		text        string
		nodes, vars int
	}{
		{tyInt, "i", 1, 0},
		{tyBool, "b", 1, 0},
		{tyV0, "v0", 1, 1},
		{tyV1, "v1", 1, 2},
		{tyFun(tyInt, tyBool), "f i b", 3, 0},
		{tyPair(tyBool, tyInt), "p b i", 3, 0},
		{tyList(tyInt), "l i", 2, 0},
		{tyFun(tyV1, tyV0), "f v1 v0", 3, 2},
		{tyPair(tyV0, tyInt), "p v0 i", 3, 1},
		{tyPair(tyInt, tyV0), "p i v0", 3, 1},
		{tyPair(tyList(tyV0), tyFun(tyInt, tyInt)), "p l v0 f i i", 6, 1},
		{tyFun(tyFun(tyInt, tyBool), tyList(tyPair(tyV1, tyInt))), "f f i b l p v1 i", 8, 2},
		{impl.Ty{K: impl.TyInt, A: []impl.Ty{}}, "i", 1, 0},
	} {
		if !impl.TyOk(c.ty) {
			t.Error("TyOk", c.text)
		}
		if got := impl.TyText(c.ty); got != c.text {
			t.Error("TyText", got, c.text)
		}
		if got, ok := impl.ParseTy(c.text); !ok || !impl.SameTy(got, c.ty) {
			t.Error("ParseTy", c.text, got, ok)
		}
		if got := impl.TyNodes(c.ty); got != c.nodes {
			t.Error("TyNodes", c.text, got, c.nodes)
		}
		if got := impl.VarsOf(c.ty); got != c.vars {
			t.Error("VarsOf", c.text, got, c.vars)
		}
		if got := impl.Ground(c.ty); got != (c.vars == 0) {
			t.Error("Ground", c.text, got)
		}
	}
}

func TestTypesComeBackOfTheirText(t *testing.T) {
	for _, ty := range smallTys(3) {
		text := plainText(ty)
		if got := impl.TyText(ty); got != text {
			t.Fatal("TyText", got, text)
		}
		back, ok := impl.ParseTy(text)
		if !ok || !reflect.DeepEqual(back, ty) {
			t.Fatal("ParseTy", text, back, ok)
		}
		if got := impl.TyNodes(ty); got != len(strings.Split(text, " ")) {
			t.Fatal("TyNodes", text, got)
		}
		vars := 0
		if strings.Contains(text, "v1") {
			vars = 2
		} else if strings.Contains(text, "v0") {
			vars = 1
		}
		if impl.VarsOf(ty) != vars || impl.Ground(ty) != (vars == 0) {
			t.Fatal("VarsOf, Ground", text)
		}
	}
}

func TestSameTyIsSameText(t *testing.T) {
	all := smallTys(3)[:400]
	texts := make([]string, len(all))
	for i, ty := range all {
		texts[i] = plainText(ty)
	}
	for i, a := range all {
		for j, b := range all {
			if got := impl.SameTy(a, b); got != (texts[i] == texts[j]) {
				t.Fatal("SameTy", texts[i], texts[j], got)
			}
		}
	}
}

func TestTypeDepth(t *testing.T) {
	for _, deepest := range []impl.Ty{
		tyLists(5, tyInt),
		tyPair(tyInt, tyLists(4, tyV1)),
		tyFun(tyLists(4, tyV0), tyBool),
		tyOfNodes(60),
	} {
		text := plainText(deepest)
		if !impl.TyOk(deepest) || impl.TyText(deepest) != text {
			t.Error("a depth of MaxDepth", text)
		}
		if got, ok := impl.ParseTy(text); !ok || !reflect.DeepEqual(got, deepest) {
			t.Error("a depth of MaxDepth is read", text)
		}
		deeper := tyList(deepest)
		if impl.TyOk(deeper) || impl.TyText(deeper) != "" || impl.TyNodes(deeper) != 0 || impl.VarsOf(deeper) != 0 || impl.Ground(deeper) {
			t.Error("one deeper than MaxDepth", text)
		}
		if got, ok := impl.ParseTy("l " + text); ok || !zeroTy(got) {
			t.Error("one deeper than MaxDepth is read", text)
		}
	}
}

func TestTypeNodes(t *testing.T) {
	for nodes := 47; nodes <= 63; nodes++ {
		ty := tyOfNodes(nodes)
		text := plainText(ty)
		if got := len(strings.Split(text, " ")); got != nodes {
			t.Fatal("the test's own type", got, nodes)
		}
		right := nodes <= 60
		if impl.TyOk(ty) != right {
			t.Error("TyOk", nodes)
		}
		if got, ok := impl.ParseTy(text); ok != right || right && !reflect.DeepEqual(got, ty) || !right && !zeroTy(got) {
			t.Error("ParseTy", nodes, got, ok)
		}
		want := 0
		if right {
			want = nodes
		}
		if got := impl.TyNodes(ty); got != want {
			t.Error("TyNodes", nodes, got)
		}
		if got := impl.TyText(ty); right && got != text || !right && got != "" {
			t.Error("TyText", nodes, got)
		}
	}
}

func TestTypeVariables(t *testing.T) {
	for n, want := range map[int]bool{0: true, 1: true, 2: false, 3: false, -1: false, 100: false, math.MaxInt: false, math.MinInt: false} {
		for levels := range 6 {
			ty := tyLists(levels, impl.Ty{K: impl.TyVar, N: n})
			vars := 0
			if want {
				vars = n + 1
			}
			if impl.TyOk(ty) != want || impl.VarsOf(ty) != vars || impl.Ground(ty) {
				t.Error(n, levels)
			}
		}
	}
}

func TestWrongTypes(t *testing.T) {
	for why, ty := range wrongTys() {
		if impl.TyOk(ty) {
			t.Error("TyOk", why)
		}
		if got := impl.TyText(ty); got != "" {
			t.Error("TyText", why, got)
		}
		if got := impl.TyNodes(ty); got != 0 {
			t.Error("TyNodes", why, got)
		}
		if impl.Ground(ty) {
			t.Error("Ground", why)
		}
		if got := impl.VarsOf(ty); got != 0 {
			t.Error("VarsOf", why, got)
		}
		if got, ok := impl.SubstTy(ty, []impl.Ty{tyInt, tyBool, tyInt}); ok || !zeroTy(got) {
			t.Error("SubstTy of it", why, got)
		}
		if got, ok := impl.SubstTy(tyV0, []impl.Ty{ty}); ok || !zeroTy(got) {
			t.Error("SubstTy with it", why, got)
		}
		if got, ok := impl.SubstTy(tyInt, []impl.Ty{ty}); ok || !zeroTy(got) {
			t.Error("SubstTy with it, not used", why, got)
		}
		if got, ok := impl.SubstTy(tyV0, []impl.Ty{tyInt, tyBool, tyInt, ty}); ok || !zeroTy(got) {
			t.Error("SubstTy with it, behind", why, got)
		}
		if !impl.SameTy(ty, ty) {
			t.Error("SameTy as itself", why)
		}
		if impl.SameTy(ty, tyInt) || impl.SameTy(tyList(tyInt), ty) {
			t.Error("SameTy as a right one", why)
		}
	}
}

func TestSameTyOfWrongTypes(t *testing.T) {
	first, second := wrongTys(), wrongTys()
	endless := map[string]bool{"holds itself": true, "holds itself by five": true}
	for why, a := range first {
		for other, b := range second {
			want := why == other || endless[why] && endless[other]
			if got := impl.SameTy(a, b); got != want {
				t.Error(why, "and", other, got)
			}
		}
	}
	if !impl.SameTy(impl.Ty{K: impl.TyList}, impl.Ty{K: impl.TyList, A: []impl.Ty{}}) {
		t.Error("an empty list and nil")
	}
	if impl.SameTy(impl.Ty{K: 9, A: []impl.Ty{tyInt, {}}}, impl.Ty{K: 9, A: []impl.Ty{tyInt, tyInt}}) {
		t.Error("unlike in the last part")
	}
	if impl.SameTy(tyLists(100000, tyInt), tyLists(100000, tyBool)) || impl.SameTy(tyLists(100000, tyInt), tyLists(99999, tyInt)) {
		t.Error("unlike far within")
	}
	if impl.SameTy(tyShared(200, tyInt), tyShared(200, tyBool)) || !impl.SameTy(tyShared(200, tyInt), tyShared(200, tyInt)) {
		t.Error("shared")
	}
	if !impl.SameTy(tyRound(2), tyRound(3)) || impl.SameTy(tyRound(3), tyLists(100, tyInt)) {
		t.Error("round")
	}
}

// Lists that begin at one place are still unlike when they end at another.
func TestSameTyOfListsAtOnePlace(t *testing.T) {
	room, other := []impl.Ty{tyInt, tyInt, tyBool}, []impl.Ty{tyInt, tyInt, tyInt}
	both := func(room []impl.Ty, first, second int) impl.Ty {
		return impl.Ty{K: 9, A: []impl.Ty{{A: room[:first]}, {A: room[:second]}}}
	}
	for first := range 4 {
		for second := range 4 {
			if got := impl.SameTy(both(room, first, second), both(other, first, second)); got != (first < 3 && second < 3) {
				t.Error(first, second, got)
			}
			if got := impl.SameTy(both(room, first, second), both(room, second, first)); got != (first == second) {
				t.Error("turned round", first, second, got)
			}
		}
	}
}

func TestParseTyWrongTexts(t *testing.T) {
	for _, s := range []string{
		"", " ", "  ", " i", "i ", "  i", "i  ", "p i  b", "p  i b", " p i b", "p i b ", "l  i",
		"f", "p", "l", "f i", "p b", "l l", "f f i i", "f l i", "l f i",
		"i i", "b v0", "f i i i", "p i b b", "l i i", "v0 v1", "l i l i",
		"x", "I", "B", "F i i", "v", "v2", "v00", "v01", "v-1", "v+1", "v 0", "v10", "v1v0", "ii", "fi i", "li", "l x", "f i x", "p x i",
		"i\n", "\ni", "l\ti", "l\ni", "l\x00i", "i\x00", "\x00", "l\u00a0i", "l\u3000i", "\u00ef", "\xff", "l \xff", "l\xff i", "\ufeffi", "f i i\n", "1", "3", "(i)",
		"l l l l l l i", "p i l l l l l i", "f l l l l l v0 i",
		strings.Repeat("l ", 100000) + "i", strings.Repeat("f ", 100000), strings.Repeat("f ", 100000) + "i",
		strings.Repeat(" ", 100000), strings.Repeat("i", 100000), strings.Repeat("i ", 100000) + "i",
		plainText(tyOfNodes(60)) + " i", plainText(tyOfNodes(60)) + " ", " " + plainText(tyOfNodes(60)),
		strings.TrimSuffix(plainText(tyOfNodes(60)), " b"),
	} {
		got, ok := impl.ParseTy(s)
		if ok || !zeroTy(got) {
			t.Errorf("ParseTy(%.60q) answers %v, %v", s, got, ok)
		}
	}
}

// What is read is just what is written: no other text gives a type.
func TestParseTyReadsOnlyTexts(t *testing.T) {
	tokens := []string{"i", "b", "v0", "v1", "f", "p", "l", "v2", ""}
	texts := []string{""}
	for range 5 {
		var longer []string
		for _, s := range texts {
			for _, token := range tokens {
				text := token
				if s != "" {
					text = s + " " + token
				}
				longer = append(longer, text)
				if ty, ok := impl.ParseTy(text); ok && (impl.TyText(ty) != text || !impl.TyOk(ty)) || !ok && !zeroTy(ty) {
					t.Fatalf("%q %v %v", text, ty, ok)
				}
			}
		}
		texts = longer
	}
}

func TestSubstTyOrdinary(t *testing.T) {
	for _, c := range []struct {
		text string
		puts []string
		want string
	}{
		{"i", nil, "i"},
		{"f i b", []string{"v0"}, "f i b"},
		{"v0", []string{"b"}, "b"},
		{"v1", []string{"i", "l b"}, "l b"},
		{"f v0 v0", []string{"p i b"}, "f p i b p i b"},
		{"f v0 p v1 v0", []string{"i", "l b"}, "f i p l b i"},
		{"p v1 v0", []string{"v1", "v0"}, "p v0 v1"},
		{"p v0 v1", []string{"p v0 v1", "f v1 v1"}, "p p v0 v1 f v1 v1"},
		{"l v0", []string{"l v0"}, "l l v0"},
		{"l v0", []string{"i", "b", "v1", "l i"}, "l i"},
		{"v1", []string{"v1", "v1"}, "v1"},
		{"l l l l l v0", []string{"b"}, "l l l l l b"},
		{"v0", []string{"l l l l l v1"}, "l l l l l v1"},
		{"l l v0", []string{"l l l v0"}, "l l l l l v0"},
	} {
		var puts []impl.Ty
		for _, s := range c.puts {
			puts = append(puts, parsed(t, s))
		}
		got, ok := impl.SubstTy(parsed(t, c.text), puts)
		if !ok || !reflect.DeepEqual(got, parsed(t, c.want)) {
			t.Error(c.text, c.puts, impl.TyText(got), ok)
		}
	}
}

func TestSubstTyLeavesNoVariablesButItsOwn(t *testing.T) {
	puts := smallTys(2)
	for i, ty := range smallTys(3) {
		first, second := puts[i%len(puts)], puts[i*7%len(puts)]
		got, ok := impl.SubstTy(ty, []impl.Ty{first, second})
		want := putInText(plainText(ty), []string{plainText(first), plainText(second)})
		if !ok || impl.TyText(got) != want {
			t.Fatal(plainText(ty), plainText(first), plainText(second), impl.TyText(got), ok)
		}
		own := 0
		if strings.Contains(plainText(ty), "v0") {
			own = impl.VarsOf(first)
		}
		if strings.Contains(plainText(ty), "v1") {
			own = max(own, impl.VarsOf(second))
		}
		if impl.VarsOf(got) != own || impl.Ground(got) != (own == 0) {
			t.Fatal("variables", want)
		}
	}
}

func TestSubstTyRefused(t *testing.T) {
	for _, c := range []struct {
		text string
		puts []string
	}{
		{"v0", nil},
		{"v1", nil},
		{"v1", []string{"i"}},
		{"f v0 v1", []string{"i"}},
		{"l l l l l v1", []string{"i"}},
		{"l l l l l v0", []string{"l i"}},
		{"l v0", []string{"l l l l l i"}},
		{"p i l v1", []string{"i", "f l l l l i i"}},
		{"l l l v0", []string{"l l l v0"}},
	} {
		var puts []impl.Ty
		for _, s := range c.puts {
			puts = append(puts, parsed(t, s))
		}
		if got, ok := impl.SubstTy(parsed(t, c.text), puts); ok || !zeroTy(got) {
			t.Error(c.text, c.puts, impl.TyText(got), ok)
		}
	}
}

func TestSubstTyNodes(t *testing.T) {
	for pairs := 0; pairs <= 16; pairs++ {
		left := pairs
		ty := tyTree(5, func() impl.Ty {
			left--
			if left >= 0 {
				return tyV0
			}
			return tyV1
		})
		got, ok := impl.SubstTy(ty, []impl.Ty{tyFun(tyBool, tyV0), tyList(tyInt)})
		nodes := 47 + pairs
		if nodes <= 60 && (!ok || impl.TyNodes(got) != nodes) || nodes > 60 && (ok || !zeroTy(got)) {
			t.Error(nodes, ok, impl.TyText(got))
		}
	}
	all := func() impl.Ty { return tyV0 }
	if got, ok := impl.SubstTy(tyTree(5, all), []impl.Ty{tyOfNodes(60)}); ok || !zeroTy(got) {
		t.Error("far too many", ok)
	}
}

func TestTypeArgumentsStay(t *testing.T) {
	var all []impl.Ty
	all = append(all, smallTys(2)...)
	all = append(all, tyLists(5, tyV1), tyLists(6, tyV0), tyOfNodes(60), tyOfNodes(61), impl.Ty{K: impl.TyFun, A: []impl.Ty{tyInt}}, impl.Ty{K: 8, A: []impl.Ty{{}, tyV1}})
	for _, ty := range all {
		for _, put := range []impl.Ty{tyInt, tyPair(tyV1, tyV0), tyLists(5, tyV0), {K: 9}} {
			arguments := roomyTys([]impl.Ty{ty, ty, put, put})
			kept := keepTys(arguments)
			ts := arguments[2:4]
			impl.TyOk(arguments[0])
			impl.TyText(arguments[0])
			impl.SameTy(arguments[0], arguments[1])
			impl.SameTy(arguments[0], arguments[2])
			impl.TyNodes(arguments[0])
			impl.Ground(arguments[0])
			impl.VarsOf(arguments[0])
			impl.SubstTy(arguments[0], ts)
			impl.SubstTy(arguments[1], ts[:1])
			impl.SubstTy(arguments[1], ts[:0])
			if !unchanged(arguments, kept) {
				t.Fatal("an argument was written to", kept[0], kept[2])
			}
		}
	}
}

// What lies behind a list's length is not there.
func TestTypeSpareRoomIsNotRead(t *testing.T) {
	for _, ty := range smallTys(2) {
		roomy := roomyTy(ty)
		if !impl.TyOk(roomy) || impl.TyText(roomy) != plainText(ty) || !impl.SameTy(roomy, ty) ||
			impl.TyNodes(roomy) != impl.TyNodes(ty) || impl.VarsOf(roomy) != impl.VarsOf(ty) || impl.Ground(roomy) != impl.Ground(ty) {
			t.Fatal(plainText(ty))
		}
		got, ok := impl.SubstTy(roomy, []impl.Ty{roomy, roomy})
		want, _ := impl.SubstTy(ty, []impl.Ty{ty, ty})
		if !ok || !reflect.DeepEqual(got, want) {
			t.Fatal("SubstTy", plainText(ty))
		}
		for _, list := range partsOf(got) {
			for _, behind := range list[len(list):cap(list)] {
				if !zeroTy(behind) {
					t.Fatal("handed out", plainText(ty))
				}
			}
		}
	}
	ts := []impl.Ty{tyInt, tyBool}
	if got, ok := impl.SubstTy(tyV1, ts[:1]); ok || !zeroTy(got) {
		t.Error("a type behind the length was put")
	}
	wrong := []impl.Ty{tyInt, {}}
	if _, ok := impl.SubstTy(tyV0, wrong[:1]); !ok {
		t.Error("a type behind the length was asked")
	}
}

func TestTypeAnswersAreNewMemory(t *testing.T) {
	puts := []impl.Ty{tyPair(tyV0, tyInt), tyFun(tyV1, tyList(tyV0))}
	for _, ty := range smallTys(3) {
		got, ok := impl.SubstTy(ty, puts)
		if !ok {
			t.Fatal("SubstTy", plainText(ty))
		}
		ownMemory(t, "SubstTy "+plainText(ty), got, ty, puts[0], puts[1])
		again, _ := impl.SubstTy(ty, puts)
		ownMemory(t, "SubstTy again", again, got)
		read := parsed(t, plainText(ty))
		ownMemory(t, "ParseTy "+plainText(ty), read, parsed(t, plainText(ty)))
	}
	// one and the same type put for both, and in a type whose parts share their memory
	shared := tyPair(tyV0, tyV1)
	twice := tyPair(shared, shared)
	got, ok := impl.SubstTy(twice, []impl.Ty{shared, shared})
	if !ok || impl.TyText(got) != "p p p v0 v1 p v0 v1 p p v0 v1 p v0 v1" {
		t.Fatal("SubstTy of shared ones", impl.TyText(got))
	}
	ownMemory(t, "SubstTy of shared ones", got, twice, shared)
}

func TestChangingAnAnswerChangesNothingElse(t *testing.T) {
	ty, puts := tyPair(tyV0, tyFun(tyV0, tyList(tyV1))), []impl.Ty{tyList(tyInt), tyPair(tyBool, tyV1)}
	kept, keptPuts := keepTy(ty), keepTys(puts)
	text := "p l i f l i l p b v1"
	lists := len(partsOf(parsed(t, text)))
	for i := range lists {
		got, ok := impl.SubstTy(ty, puts)
		if !ok || impl.TyText(got) != text {
			t.Fatal("SubstTy", impl.TyText(got))
		}
		want := keepTy(got)
		list, same := partsOf(got)[i], partsOf(want)[i]
		end := len(list) - 1
		list[end], same[end] = impl.Ty{K: 50}, impl.Ty{K: 50}
		if !reflect.DeepEqual(got, want) {
			t.Error("another part changed", got, want)
		}
		if !reflect.DeepEqual(ty, kept) || !reflect.DeepEqual(puts, keptPuts) {
			t.Fatal("an argument changed")
		}
	}
}
