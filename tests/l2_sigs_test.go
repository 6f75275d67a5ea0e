package tests

import (
	"math/rand"
	"slices"
	"strings"
	"testing"

	"loop.example/modlink/impl"
)

func TestSigsAndTheirTexts(t *testing.T) {
	u, v := name("", "u"), name("", "v")
	tests := []struct {
		text string
		sig  []impl.SigItem
	}{
		{"{}", nil},
		{"{t}", items(abstract("t"))},
		{"{t=I}", items(alias("t", num))},
		{"{x:I}", items(val("x", num))},
		{"{a;z}", items(abstract("a"), abstract("z"))},
		{"{u;u:u}", items(abstract("u"), val("u", u))},
		{"{u:I;u}", items(val("u", num), abstract("u"))},
		{"{u:I;u=I;v:u}", items(val("u", num), alias("u", num), val("v", u))},
		{"{u;v=u;i:v}", items(abstract("u"), alias("v", u), val("i", v))},
		{"{t=A.t;t:A.u;x:B.x}", items(alias("t", name("A", "t")), val("t", name("A", "u")), val("x", name("B", "x")))},
		{"{u;v=(u>I);f:(v>u)}", items(abstract("u"), alias("v", fun(u, num)), val("f", fun(v, u)))},
		{"{u;f:(u>(u>A.u))}", items(abstract("u"), val("f", fun(u, fun(u, name("A", "u")))))},
	}
	for _, test := range tests {
		if !impl.SigValid(test.sig) {
			t.Errorf("%s is not valid", test.text)
		}
		if got := impl.FormatSig(test.sig); got != test.text {
			t.Errorf("FormatSig = %q, want %q", got, test.text)
		}
		if got, ok := impl.ParseSig(test.text); !ok || !equalSigs(got, test.sig) {
			t.Errorf("ParseSig(%q) = %v, %v", test.text, got, ok)
		}
	}
}

func TestTextsThatAreNoSig(t *testing.T) {
	texts := []string{
		"", " ", "{", "}", "{{}", "{}}", "{{}}", "{} ", " {}", "{ }", "{}{}", "{}\n", "{t", "t}", "t", "(t)", "[t]", "{t)",
		"{;}", "{t;}", "{;t}", "{t;;u}", "{t,u}", "{t u}", "{t; u}", "{t ;u}", "{tu}", "{t.u}", "{A.t}", "{A}", "{I}", "{I=I}", "{I:I}", "{A:I}", "{A=I}",
		"{t=}", "{x:}", "{=I}", "{:I}", "{t==I}", "{x::I}", "{x:=I}", "{x=:I}", "{t= I}", "{x: I}", "{t =I}", "{x :I}", "{t=I;x:}", "{t=II}", "{x:I=I}", "{x:I:I}",
		"{t=(I>I}", "{x:(I)}", "{x:I.t}", "{x:A}", "{x:A.}", "{x:A.I}", "{x:(I>I>I)}", "{t\x00}", "{\x00}", "{é}", "{x:é}", "{1}", "{x:1}", "{xx:I}", "{`}", "{{:I}",
		"{t;t}", "{t;t=I}", "{t=I;t}", "{t=I;t=I}", "{x:I;x:I}", "{x:I;y:I;x:(I>I)}", "{t;x:t;t}",
		"{x:t}", "{t=t}", "{t=(t>I)}", "{t=u;u}", "{x:t;t}", "{x:t;t=I}", "{u:I;x:u}", "{t;x:(t>u)}", "{t;x:(u>t)}", "{t;u=v;v=t}",
		strings.Repeat("{", 1000000), "{" + strings.Repeat("t;", 1000000), "{" + strings.Repeat("(", 1000000), "{x:" + strings.Repeat("(I>", 1000000), "{t=" + strings.Repeat("A.", 1000000),
	}
	for _, text := range texts {
		if got, ok := impl.ParseSig(text); ok || len(got) != 0 {
			t.Errorf("ParseSig(%.20q) = %v, %v", text, got, ok)
		}
	}
}

// TestAllShortSigTexts compares ParseSig, for each text of a small alphabet, with a reading by splitting.
func TestAllShortSigTexts(t *testing.T) {
	accepted := 0
	eachText(strings.Split(";=:tuIA.", ""), 7, func(inner string) {
		text := "{" + inner + "}"
		got, ok := impl.ParseSig(text)
		if want := isSigText(text); ok != want || ok && impl.FormatSig(got) != text || !ok && len(got) != 0 {
			t.Errorf("ParseSig(%q) = %v, %v", text, got, ok)
		}
		if ok {
			accepted++
		}
	})
	if accepted < 50 {
		t.Errorf("only %d texts are accepted", accepted)
	}
}

func TestChangedSigTexts(t *testing.T) {
	random := rand.New(rand.NewSource(3))
	accepted, rejected := 0, 0
	for range 50000 {
		text := randomSigText(random)
		for range random.Intn(3) {
			at := random.Intn(len(text))
			c := string("{};=:(>)tuIA. "[random.Intn(14)])
			text = text[:at] + []string{c, "", c + text[at:at+1]}[random.Intn(3)] + text[at+1:]
			if text == "" {
				break
			}
		}
		got, ok := impl.ParseSig(text)
		if want := isSigText(text); ok != want || ok && impl.FormatSig(got) != text {
			t.Fatalf("ParseSig(%q) = %v, %v", text, got, ok)
		}
		if ok {
			accepted++
		} else {
			rejected++
		}
	}
	if accepted < 1000 || rejected < 1000 {
		t.Errorf("%d texts are accepted, %d are not", accepted, rejected)
	}
}

// checkInvalidSig checks that each function rejects a list of items.
func checkInvalidSig(t *testing.T, s []impl.SigItem) {
	t.Helper()
	if impl.SigValid(s) || impl.FormatSig(s) != "" || len(impl.SigModules(s)) != 0 {
		t.Errorf("%v: %v %q %v", s, impl.SigValid(s), impl.FormatSig(s), impl.SigModules(s))
	}
	for i, f := range []func() ([]impl.SigItem, bool){
		func() ([]impl.SigItem, bool) { return impl.NormalSig(s) },
		func() ([]impl.SigItem, bool) { return impl.StrengthenSig(s, "M") },
		func() ([]impl.SigItem, bool) { return impl.RenameSig(s, "A", "B") },
	} {
		if got, ok := f(); ok || len(got) != 0 {
			t.Errorf("%d: %v becomes %v, %v", i, s, got, ok)
		}
	}
	for _, n := range []string{"t", "x", ""} {
		checkNotFound(t, s, n)
	}
	if !impl.SigSame(s, s) || !impl.SigSame(s, copySig(s)) {
		t.Errorf("%v is not the same as itself", s)
	}
}

func checkNotFound(t *testing.T, s []impl.SigItem, n string) {
	t.Helper()
	if got, ok := impl.FindType(s, n); ok || !zeroType(got) {
		t.Errorf("FindType of %v and %q = %v, %v", s, n, got, ok)
	}
	if got, ok := impl.FindVal(s, n); ok || !zeroType(got) {
		t.Errorf("FindVal of %v and %q = %v, %v", s, n, got, ok)
	}
}

// invalidItems lists items that are in no signature whose only type is t.
func invalidItems() []impl.SigItem {
	list := items(impl.SigItem{}, impl.SigItem{Name: "x"}, impl.SigItem{Kind: 1}, impl.SigItem{Kind: 2}, impl.SigItem{Kind: 3}, val("x", name("", "u")), alias("u", name("", "u")))
	for _, kind := range []int{-1, 0, 4, 5, 1 << 40} {
		list = append(list, impl.SigItem{Kind: kind, Name: "x"}, impl.SigItem{Kind: kind, Name: "x", Type: num})
	}
	for _, n := range []string{"", "A", "I", "xx", "x ", " x", "`", "{", "0", "é", "\xff", "A.x"} {
		list = append(list, abstract(n), alias(n, num), val(n, num))
	}
	for _, x := range invalidTypes() {
		list = append(list, alias("x", x), val("x", x), val("x", fun(num, x)))
	}
	for _, x := range []impl.Type{num, name("", "t"), name("A", "t"), fun(num, num), {Mod: "A"}, {Name: "x"}, {Kind: 4}, {Kids: []impl.Type{{}}}} {
		list = append(list, impl.SigItem{Kind: impl.SigAbstract, Name: "x", Type: x})
	}
	for _, x := range []impl.Type{chain(9, true, num), chain(9, false, num), full(7, num), fun(num, full(6, num))} {
		list = append(list, alias("x", x), val("x", x))
	}
	return list
}

func TestInvalidSigs(t *testing.T) {
	for _, x := range invalidItems() {
		checkInvalidSig(t, items(x))
		checkInvalidSig(t, items(abstract("t"), x))
		checkInvalidSig(t, items(x, abstract("t")))
		checkInvalidSig(t, items(abstract("t"), x, val("x", num)))
	}
}

func TestSigsOfTypesThatContainThemselves(t *testing.T) {
	for _, x := range []impl.Type{loop(1, num), loop(1000, num)} {
		for _, item := range items(alias("t", x), val("t", x), impl.SigItem{Kind: impl.SigAbstract, Name: "t", Type: x}) {
			s := items(item)
			if impl.SigValid(s) || impl.FormatSig(s) != "" || !impl.SigSame(s, s) || impl.SigSame(s, items(alias("t", num))) {
				t.Error("a signature with a type that contains itself is treated wrongly")
			}
			if _, ok := impl.NormalSig(s); ok {
				t.Error("a type that contains itself is normal")
			}
		}
	}
}

func TestNamesAreDefinedOnceAndBeforeUse(t *testing.T) {
	u := name("", "u")
	for _, s := range [][]impl.SigItem{
		items(abstract("t"), abstract("t")),
		items(abstract("t"), alias("t", num)),
		items(alias("t", num), abstract("t")),
		items(alias("t", num), alias("t", num)),
		items(abstract("t"), alias("u", num), abstract("t")),
		items(val("x", num), val("x", num)),
		items(val("x", num), abstract("x"), val("x", fun(num, num))),
		items(val("x", u)),
		items(val("x", u), abstract("u")),
		items(val("x", u), alias("u", num)),
		items(alias("u", u)),
		items(alias("u", fun(num, u))),
		items(alias("t", u), abstract("u")),
		items(abstract("t"), alias("v", fun(name("", "t"), u)), alias("u", num)),
		items(val("u", num), val("x", u)),
		items(val("u", num), alias("t", u)),
	} {
		checkInvalidSig(t, s)
	}
}

func TestItemsLimit(t *testing.T) {
	const names = "abcdefghijklmnopqrstuvwxyz"
	for count := 6; count <= 11; count++ {
		var types, aliases, vals, both []impl.SigItem
		for i := range count {
			n := names[i : i+1]
			types, aliases, vals = append(types, abstract(n)), append(aliases, alias(n, num)), append(vals, val(n, num))
			both = append(both, []impl.SigItem{abstract(names[i/2 : i/2+1]), val(names[i/2:i/2+1], name("", names[i/2:i/2+1]))}[i%2])
		}
		for _, s := range [][]impl.SigItem{types, aliases, vals, both} {
			checkItemsLimit(t, s, count <= 8)
		}
	}
}

func checkItemsLimit(t *testing.T, s []impl.SigItem, want bool) {
	t.Helper()
	var parts []string
	for _, x := range s {
		part := x.Name
		if x.Kind > 1 {
			part += []string{"=", ":"}[x.Kind-2] + impl.FormatType(x.Type)
		}
		parts = append(parts, part)
	}
	text := "{" + strings.Join(parts, ";") + "}"
	if got, ok := impl.ParseSig(text); ok != want || ok && !equalSigs(got, s) || !ok && len(got) != 0 {
		t.Errorf("ParseSig(%q) = %v", text, ok)
	}
	if !want {
		checkInvalidSig(t, s)
		return
	}
	if got, ok := impl.NormalSig(s); !impl.SigValid(s) || impl.FormatSig(s) != text || !ok || !equalSigs(got, s) {
		t.Errorf("%s is not accepted", text)
	}
	if got, ok := impl.StrengthenSig(s, "M"); !ok || len(got) != len(s) {
		t.Errorf("StrengthenSig of %s = %v, %v", text, got, ok)
	}
	if got, ok := impl.RenameSig(s, "A", "B"); !ok || !equalSigs(got, s) {
		t.Errorf("RenameSig of %s = %v, %v", text, got, ok)
	}
}

func TestTypeLimitsInSigs(t *testing.T) {
	for _, test := range []struct {
		typ  impl.Type
		text string
		want bool
	}{
		{chain(8, true, num), strings.Repeat("(", 7) + "I" + strings.Repeat(">I)", 7), true},
		{chain(9, true, num), strings.Repeat("(", 8) + "I" + strings.Repeat(">I)", 8), false},
		{full(6, num), fullText(6, "I"), true},
		{fun(full(6, num), num), "(" + fullText(6, "I") + ">I)", false},
	} {
		for sep, s := range map[string][]impl.SigItem{"=": items(alias("t", test.typ)), ":": items(val("t", test.typ))} {
			text := "{t" + sep + test.text + "}"
			if got, ok := impl.ParseSig(text); ok != test.want || ok && !equalSigs(got, s) {
				t.Errorf("ParseSig(%q) = %v", text, ok)
			}
			if impl.SigValid(s) != test.want || (impl.FormatSig(s) == text) != test.want {
				t.Errorf("SigValid of %s is not %v", text, test.want)
			}
		}
	}
}

func TestEmptySlicesAreNone(t *testing.T) {
	kids := []impl.Type{}
	a := items(abstract("t"), alias("u", num), val("x", name("", "t")))
	b := copySig(a)
	b[0].Type.Kids, b[1].Type.Kids, b[2].Type.Kids = kids, kids, kids
	if !impl.SigValid(b) || impl.FormatSig(b) != "{t;u=I;x:t}" || !impl.SigSame(a, b) || !impl.SigSame(b, a) {
		t.Error("empty Kids are not treated as none")
	}
	if !impl.SigSame(nil, items()) || impl.FormatSig(items()) != "{}" || impl.FormatSig(nil) != "{}" {
		t.Error("an empty signature is not treated as nil")
	}
}

func TestSigSame(t *testing.T) {
	list := append(invalidItems(), abstract("t"), abstract("x"), alias("t", num), alias("x", num), val("x", num), val("y", num), val("x", name("A", "t")), val("x", fun(num, num)))
	for i, a := range list {
		for _, b := range list {
			same := equalSigs(items(a), items(b))
			if impl.SigSame(items(a), items(b)) != same || impl.SigSame(items(a, a), items(a, b)) != same || impl.SigSame(items(a, b), items(b, a)) != same {
				t.Errorf("SigSame of %v and %v is not %v", a, b, same)
			}
		}
		if impl.SigSame(items(a), nil) || impl.SigSame(nil, items(a)) || impl.SigSame(items(a), items(a, a)) || impl.SigSame(list[:i], list[:i+1]) || !impl.SigSame(list[:i], copySig(list[:i])) {
			t.Errorf("SigSame is wrong for lists with %v", a)
		}
	}
}

func TestSigSameOfLargeSigs(t *testing.T) {
	large := func(leaf impl.Type) []impl.SigItem {
		x := chain(1000, true, leaf)
		var s []impl.SigItem
		for range 20000 {
			s = append(s, val("x", x))
		}
		return s
	}
	if !impl.SigSame(large(num), large(num)) || impl.SigSame(large(num), large(name("", "t"))) {
		t.Error("SigSame is wrong for large lists of items")
	}
	if s := large(num); impl.SigValid(s) || impl.FormatSig(s) != "" {
		t.Error("a large list of items is valid")
	}
}

func TestNormalSig(t *testing.T) {
	tests := []struct{ sig, want string }{
		{"{}", "{}"},
		{"{t}", "{t}"},
		{"{t=I}", "{t=I}"},
		{"{t;u=(t>I);f:(u>t)}", "{t;u=(t>I);f:((t>I)>t)}"},
		{"{t;u=(t>I);f:(u>t);x:A.t}", "{t;u=(t>I);f:((t>I)>t);x:A.t}"},
		{"{t=I;x:t}", "{t=I;x:I}"},
		{"{t=I;u=t;v=u;w=v;x:w}", "{t=I;u=I;v=I;w=I;x:I}"},
		{"{t;u=t;v=u;x:v}", "{t;u=t;v=t;x:t}"},
		{"{t;u=(t>t);v=(u>u);x:(v>t)}", "{t;u=(t>t);v=((t>t)>(t>t));x:(((t>t)>(t>t))>t)}"},
		{"{t=A.u;u=A.t;x:(t>(u>A.t))}", "{t=A.u;u=A.t;x:(A.u>(A.t>A.t))}"},
		{"{t=I;x:A.t;y:(A.t>t)}", "{t=I;x:A.t;y:(A.t>I)}"},
		{"{t=A.t;u=t;x:u}", "{t=A.t;u=A.t;x:A.t}"},
		{"{t:I;t=(I>I);u:t}", "{t:I;t=(I>I);u:(I>I)}"},
		{"{t=(I>I);t:t;x:t}", "{t=(I>I);t:(I>I);x:(I>I)}"},
		{"{t;t:t;u=t;u:u}", "{t;t:t;u=t;u:t}"},
		{"{t;u;v=(u>t);x:(v>(t>u))}", "{t;u;v=(u>t);x:((u>t)>(t>u))}"},
	}
	for _, test := range tests {
		s := parsedSig(t, test.sig)
		got, ok := impl.NormalSig(s)
		if !ok || impl.FormatSig(got) != test.want {
			t.Errorf("NormalSig of %s = %s, %v, want %s", test.sig, impl.FormatSig(got), ok, test.want)
		}
		checkFound(t, s, parsedSig(t, test.want))
	}
}

// checkFound checks FindType and FindVal of a signature against its normal form, for all names.
func checkFound(t *testing.T, s, normal []impl.SigItem) {
	t.Helper()
	types, vals := map[string]impl.Type{}, map[string]impl.Type{}
	for _, x := range normal {
		switch x.Kind {
		case impl.SigAbstract:
			types[x.Name] = name("", x.Name)
		case impl.SigAlias:
			types[x.Name] = x.Type
		case impl.SigVal:
			vals[x.Name] = x.Type
		}
	}
	for _, n := range strings.Split("a t u v w x y z f i T A I tt t. A.t", " ") {
		want, wantOk := types[n]
		if got, ok := impl.FindType(s, n); ok != wantOk || !equalTypes(got, want) {
			t.Errorf("FindType of %s and %s = %s, %v", impl.FormatSig(s), n, impl.FormatType(got), ok)
		}
		want, wantOk = vals[n]
		if got, ok := impl.FindVal(s, n); ok != wantOk || !equalTypes(got, want) {
			t.Errorf("FindVal of %s and %s = %s, %v", impl.FormatSig(s), n, impl.FormatType(got), ok)
		}
	}
	checkNotFound(t, s, "")
}

func TestNormalSigLimits(t *testing.T) {
	u, v, w := name("", "u"), name("", "v"), name("", "w")
	five, eight, most, quarter := chain(5, false, num), chain(8, true, num), full(6, num), full(4, num)
	less := fun(fun(num, full(2, num)), full(3, num))                     // a quarter with two nodes fewer
	more := fun(fun(fun(fun(num, num), num), full(2, num)), full(3, num)) // a quarter with two nodes more
	tests := []struct {
		sig          []impl.SigItem
		depth, nodes int // of the largest normal type
	}{
		{items(alias("u", five), val("x", chain(4, true, u))), 8, 15},
		{items(alias("u", five), val("x", chain(5, true, u))), 9, 17},
		{items(alias("u", five), val("x", chain(4, false, u))), 8, 15},
		{items(alias("u", five), val("x", chain(5, false, u))), 9, 17},
		{items(alias("u", five), alias("v", chain(4, true, u))), 8, 15},
		{items(alias("u", five), alias("v", chain(5, true, u))), 9, 17},
		{items(alias("u", five), alias("v", chain(3, true, u)), val("x", fun(num, v))), 8, 15},
		{items(alias("u", five), alias("v", chain(3, true, u)), val("x", fun(num, fun(v, num)))), 9, 17},
		{items(alias("u", five), val("x", chain(5, true, u)), abstract("t"), val("y", num)), 9, 17},
		{items(abstract("t"), alias("u", chain(5, false, name("", "t"))), val("x", chain(5, true, u))), 9, 17},
		{items(alias("u", eight), val("x", u)), 8, 15},
		{items(alias("u", eight), val("x", fun(num, u))), 9, 17},
		{items(alias("u", quarter), val("x", fun(fun(u, u), fun(u, less)))), 6, 61},
		{items(alias("u", quarter), val("x", fun(fun(u, u), fun(u, u)))), 6, 63},
		{items(alias("u", quarter), val("x", fun(fun(u, u), fun(u, more)))), 7, 65},
		{items(alias("u", quarter), val("x", fun(fun(more, u), fun(u, u)))), 7, 65},
		{items(alias("u", quarter), alias("x", fun(fun(u, u), fun(u, u)))), 6, 63},
		{items(alias("u", quarter), alias("x", fun(fun(u, u), fun(u, more)))), 7, 65},
		{items(alias("u", quarter), alias("v", more), val("x", fun(fun(u, u), fun(v, u)))), 7, 65},
		{items(alias("u", quarter), alias("v", fun(u, u)), val("x", fun(v, fun(u, less)))), 6, 61},
		{items(alias("u", quarter), alias("v", fun(u, u)), val("x", fun(v, v))), 6, 63},
		{items(alias("u", quarter), alias("v", fun(u, u)), val("x", fun(v, fun(u, more)))), 7, 65},
		{items(alias("u", full(2, num)), alias("v", full(3, u)), alias("w", full(3, v)), val("x", w)), 6, 63},
		{items(alias("u", quarter), val("x", fun(fun(u, u), fun(u, more))), val("y", u)), 7, 65},
		{items(alias("u", most), val("x", u)), 6, 63},
		{items(alias("u", most), val("x", fun(u, num))), 7, 65},
	}
	for i, test := range tests {
		text := impl.FormatSig(test.sig)
		if depth, nodes := largestNormal(text); depth != test.depth || nodes != test.nodes {
			t.Fatalf("%d: %s has depth %d and %d nodes", i, text, depth, nodes)
		}
		checkNormalLimit(t, test.sig, test.depth <= 8 && test.nodes <= 63)
	}
}

// largestNormal returns the greatest depth and the greatest number of nodes of a normal type.
func largestNormal(text string) (depth, nodes int) {
	for _, part := range splitSig(normalText(text)) {
		_, _, typ := splitItem(part)
		open, leaves := 0, strings.Count(typ, ">")+1
		for _, c := range typ {
			switch c {
			case '(':
				open++
			case ')':
				open--
			}
			depth = max(depth, open+1)
		}
		nodes = max(nodes, 2*leaves-1)
	}
	return depth, nodes
}

// Without limits on the way, the last of these types would have 16 to the power of 8 names.
func TestNormalSigOfAliasesThatGrow(t *testing.T) {
	s := items(alias("a", full(5, num)))
	for _, n := range []string{"b", "c", "d", "e", "f", "g", "h"} {
		s = append(s, alias(n, full(5, name("", s[len(s)-1].Name))))
	}
	checkNormalLimit(t, s, false)
}

func checkNormalLimit(t *testing.T, s []impl.SigItem, want bool) {
	t.Helper()
	text := impl.FormatSig(s)
	if !impl.SigValid(s) || !equalSigs(parsedSig(t, text), s) {
		t.Fatalf("%v is not accepted", s)
	}
	got, ok := impl.NormalSig(s)
	if ok != want || !ok && len(got) != 0 || ok && impl.FormatSig(got) != normalText(text) {
		t.Errorf("NormalSig of %s = %s, %v", text, impl.FormatSig(got), ok)
	}
	if !want {
		for _, x := range s {
			checkNotFound(t, s, x.Name)
		}
	}
	if _, ok := impl.StrengthenSig(s, "M"); !ok {
		t.Errorf("StrengthenSig of %s is false", text)
	}
	if r, ok := impl.RenameSig(s, "A", "B"); !ok || !equalSigs(r, s) {
		t.Errorf("RenameSig of %s is false", text)
	}
}

// TestRandomSigs checks promise 2, and compares normal types with a replacement in texts.
func TestRandomSigs(t *testing.T) {
	random := rand.New(rand.NewSource(4))
	small, large := 0, 0
	for range 20000 {
		text := randomSigText(random)
		s := parsedSig(t, text)
		want, wantOk := wantedNormal(text)
		got, ok := impl.NormalSig(s)
		if ok != wantOk || ok && impl.FormatSig(got) != impl.FormatSig(want) {
			t.Fatalf("NormalSig of %s = %s, %v", text, impl.FormatSig(got), ok)
		}
		if !ok {
			large++
			checkNotFound(t, s, s[0].Name)
			continue
		}
		small++
		checkNoAliases(t, got)
		checkFound(t, s, want)
		if again, ok := impl.NormalSig(got); !ok || !equalSigs(again, got) {
			t.Fatalf("NormalSig of %s is not normal", text)
		}
	}
	if small < 1000 || large < 100 {
		t.Errorf("%d signatures have normal types, %d do not", small, large)
	}
}

// wantedNormal reads each item of the normal form alone, since a normal form may be no text of a signature that is valid.
func wantedNormal(text string) ([]impl.SigItem, bool) {
	var want []impl.SigItem
	for _, part := range splitSig(normalText(text)) {
		n, sep, typ := splitItem(part)
		if sep == "" {
			want = append(want, abstract(n))
			continue
		}
		x, ok := impl.ParseType(typ)
		if !ok {
			return nil, false
		}
		if sep == "=" {
			want = append(want, alias(n, x))
		} else {
			want = append(want, val(n, x))
		}
	}
	return want, true
}

func checkNoAliases(t *testing.T, s []impl.SigItem) {
	t.Helper()
	aliases := map[string]bool{}
	for _, x := range s {
		aliases[x.Name] = aliases[x.Name] || x.Kind == impl.SigAlias
	}
	for _, x := range s {
		for _, n := range impl.TypeNames(x.Type) {
			if n.Mod == "" && aliases[n.Name] {
				t.Fatalf("a normal type of %s has an alias", impl.FormatSig(s))
			}
		}
	}
}

func TestStrengthenSig(t *testing.T) {
	tests := []struct{ sig, mod, want string }{
		{"{}", "M", "{}"},
		{"{t}", "M", "{t=M.t}"},
		{"{t;u=(t>I);f:(u>t);x:A.t}", "M", "{t=M.t;u=(t>I);f:(u>t);x:A.t}"},
		{"{t;t:t}", "A", "{t=A.t;t:t}"},
		{"{t:I;t;x:t}", "Z", "{t:I;t=Z.t;x:t}"},
		{"{t=A.t;u;x:A.u}", "A", "{t=A.t;u=A.u;x:A.u}"},
		{"{a;b;c;d;e;f;g;h}", "J", "{a=J.a;b=J.b;c=J.c;d=J.d;e=J.e;f=J.f;g=J.g;h=J.h}"},
		{"{t=I;x:t}", "M", "{t=I;x:t}"},
	}
	for _, test := range tests {
		got, ok := impl.StrengthenSig(parsedSig(t, test.sig), test.mod)
		if !ok || impl.FormatSig(got) != test.want {
			t.Errorf("StrengthenSig of %s and %s = %s, %v", test.sig, test.mod, impl.FormatSig(got), ok)
		}
	}
	random := rand.New(rand.NewSource(5))
	for range 3000 {
		s := parsedSig(t, randomSigText(random))
		got, ok := impl.StrengthenSig(s, "M")
		if !ok || !impl.SigValid(got) || len(got) != len(s) || slices.ContainsFunc(got, func(x impl.SigItem) bool { return x.Kind == impl.SigAbstract }) {
			t.Fatalf("StrengthenSig of %s = %s, %v", impl.FormatSig(s), impl.FormatSig(got), ok)
		}
	}
}

func TestRenameSig(t *testing.T) {
	tests := []struct{ sig, from, to, want string }{
		{"{}", "A", "B", "{}"},
		{"{t;u=(t>I);f:(u>t);x:A.t}", "A", "B", "{t;u=(t>I);f:(u>t);x:B.t}"},
		{"{t=A.t;x:(A.t>(B.t>C.t));y:A.u}", "A", "B", "{t=B.t;x:(B.t>(B.t>C.t));y:B.u}"},
		{"{t=A.t;x:(A.t>(B.t>C.t));y:A.u}", "B", "A", "{t=A.t;x:(A.t>(A.t>C.t));y:A.u}"},
		{"{t=A.t;x:t}", "A", "A", "{t=A.t;x:t}"},
		{"{t=A.t;x:B.t}", "C", "D", "{t=A.t;x:B.t}"},
		{"{a;a:a;b:A.a}", "A", "Z", "{a;a:a;b:Z.a}"},
	}
	for _, test := range tests {
		got, ok := impl.RenameSig(parsedSig(t, test.sig), test.from, test.to)
		if !ok || impl.FormatSig(got) != test.want {
			t.Errorf("RenameSig of %s, %s and %s = %s, %v", test.sig, test.from, test.to, impl.FormatSig(got), ok)
		}
	}
	random := rand.New(rand.NewSource(6))
	for range 3000 {
		text := randomSigText(random)
		got, ok := impl.RenameSig(parsedSig(t, text), "A", "B")
		if want := strings.ReplaceAll(text, "A.", "B."); !ok || impl.FormatSig(got) != want {
			t.Fatalf("RenameSig of %s = %s, %v", text, impl.FormatSig(got), ok)
		}
	}
}

func TestWrongModuleNames(t *testing.T) {
	for _, s := range [][]impl.SigItem{nil, items(alias("t", num)), items(abstract("t"), val("x", name("A", "t")))} {
		for _, mod := range []string{"", "I", "a", "AA", "A ", "@", "[", "É", "\xff", "A."} {
			if got, ok := impl.StrengthenSig(s, mod); ok || len(got) != 0 {
				t.Errorf("StrengthenSig of %q = %v, %v", mod, got, ok)
			}
			for _, names := range [][2]string{{"A", mod}, {mod, "A"}, {mod, mod}} {
				if got, ok := impl.RenameSig(s, names[0], names[1]); ok || len(got) != 0 {
					t.Errorf("RenameSig of %q = %v, %v", names, got, ok)
				}
			}
		}
	}
}

func TestSigModules(t *testing.T) {
	tests := []struct{ sig, want string }{
		{"{}", ""},
		{"{t;u=(t>I);x:t}", ""},
		{"{t;u=(t>I);f:(u>t);x:A.t}", "A"},
		{"{x:(B.t>(A.t>B.u));t=C.t}", "A B C"},
		{"{t=Z.t;u=(Y.t>X.t);x:u;y:A.t}", "A X Y Z"},
		{"{a:J.a;b:H.a;c:H.b;d:(J.a>K.i)}", "H J K"},
	}
	for _, test := range tests {
		if got := strings.Join(impl.SigModules(parsedSig(t, test.sig)), " "); got != test.want {
			t.Errorf("SigModules of %s = %s", test.sig, got)
		}
	}
	var parts []string
	for _, n := range "ABCDEFGH" {
		parts = append(parts, strings.ToLower(string(n))+":("+string(n+10)+".t>"+string(n)+".t)")
	}
	want := strings.Split("A B C D E F G H K L M N O P Q R", " ")
	if got := impl.SigModules(parsedSig(t, "{"+strings.Join(parts, ";")+"}")); !slices.Equal(got, want) {
		t.Errorf("SigModules = %v", got)
	}
}

func TestResultsOfSigsAreNewMemory(t *testing.T) {
	const text = "{t;u=(t>I);v=(u>u);x:(v>v);y:(v>A.t)}"
	s := parsedSig(t, text)
	for i, f := range []func() ([]impl.SigItem, bool){
		func() ([]impl.SigItem, bool) { return impl.NormalSig(s) },
		func() ([]impl.SigItem, bool) { return impl.StrengthenSig(s, "M") },
		func() ([]impl.SigItem, bool) { return impl.RenameSig(s, "A", "B") },
		func() ([]impl.SigItem, bool) { return impl.ParseSig(text) },
	} {
		first, _ := f()
		second, _ := f()
		want := copySig(second)
		spoilSig(first)
		if !equalSigs(second, want) || impl.FormatSig(s) != text {
			t.Errorf("%d: results share memory", i)
		}
		for j := range second {
			spoil(second[j].Type)
			if !equalSigs(second[j+1:], want[j+1:]) {
				t.Errorf("%d: items of one result share memory", i)
			}
		}
	}
	checkFoundIsNew(t, s, text)
}

func checkFoundIsNew(t *testing.T, s []impl.SigItem, text string) {
	t.Helper()
	for _, n := range []string{"t", "u", "v"} {
		x, _ := impl.FindType(s, n)
		spoil(x)
	}
	x, _ := impl.FindVal(s, "x")
	spoil(x.Kids[0])
	if impl.FormatType(x.Kids[1]) != "((t>I)>(t>I))" || impl.FormatSig(s) != text {
		t.Error("results of FindType or FindVal share memory")
	}
}

func TestSigArgumentsAreNotChanged(t *testing.T) {
	backing := items(abstract("t"), val("x", name("A", "t")), val("y", num), val("z", num))
	want := copySig(backing)
	s := backing[:2]
	impl.SigValid(s)
	impl.FormatSig(s)
	impl.SigSame(s, backing)
	impl.NormalSig(s)
	impl.StrengthenSig(s, "M")
	impl.RenameSig(s, "A", "B")
	impl.FindType(s, "t")
	impl.FindVal(s, "x")
	impl.SigModules(s)
	if !equalSigs(backing, want) {
		t.Errorf("an argument has changed: %v", backing)
	}
}
