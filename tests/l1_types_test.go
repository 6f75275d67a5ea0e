package tests

import (
	"math/rand"
	"strings"
	"testing"

	"loop.example/modlink/impl"
)

func TestNamesOfOneByte(t *testing.T) {
	for c := range 256 {
		s := string([]byte{byte(c)})
		if got, want := impl.LocalName(s), strings.Contains("abcdefghijklmnopqrstuvwxyz", s); got != want {
			t.Errorf("LocalName(%q) = %v", s, got)
		}
		if got, want := impl.ModuleName(s), strings.Contains("ABCDEFGHJKLMNOPQRSTUVWXYZ", s); got != want {
			t.Errorf("ModuleName(%q) = %v", s, got)
		}
	}
}

func TestNamesOfOtherLengths(t *testing.T) {
	for _, s := range []string{"", "aa", "AA", "aA", "Aa", "a ", " a", "A\x00", "é", "É", "ａ", "Ａ", "a\n", "A.t"} {
		if impl.LocalName(s) || impl.ModuleName(s) {
			t.Errorf("%q is accepted as a name", s)
		}
	}
}

func TestTypesAndTheirTexts(t *testing.T) {
	tests := []struct {
		text  string
		typ   impl.Type
		count int
		names string
	}{
		{"I", num, 1, ""},
		{"a", name("", "a"), 1, "a"},
		{"i", name("", "i"), 1, "i"},
		{"z", name("", "z"), 1, "z"},
		{"A.a", name("A", "a"), 1, "A.a"},
		{"Z.z", name("Z", "z"), 1, "Z.z"},
		{"(I>I)", fun(num, num), 3, ""},
		{"(A.t>(t>I))", fun(name("A", "t"), fun(name("", "t"), num)), 5, "A.t t"},
		{"((t>A.t)>(t>u))", fun(fun(name("", "t"), name("A", "t")), fun(name("", "t"), name("", "u"))), 7, "t A.t u"},
		{"((B.t>A.t)>(A.t>B.t))", fun(fun(name("B", "t"), name("A", "t")), fun(name("A", "t"), name("B", "t"))), 7, "B.t A.t"},
		{"(((u>I)>t)>u)", fun(fun(fun(name("", "u"), num), name("", "t")), name("", "u")), 7, "u t"},
	}
	for _, test := range tests {
		if !impl.TypeValid(test.typ) {
			t.Errorf("%s is not valid", test.text)
		}
		if got := impl.FormatType(test.typ); got != test.text {
			t.Errorf("FormatType = %q, want %q", got, test.text)
		}
		if got, ok := impl.ParseType(test.text); !ok || !equalTypes(got, test.typ) {
			t.Errorf("ParseType(%q) = %v, %v", test.text, got, ok)
		}
		if got := impl.TypeCount(test.typ); got != test.count {
			t.Errorf("TypeCount of %s = %d", test.text, got)
		}
		checkNames(t, test.typ, test.names)
	}
}

func checkNames(t *testing.T, typ impl.Type, want string) {
	t.Helper()
	var texts []string
	for _, n := range impl.TypeNames(typ) {
		if n.Kind != impl.TypeName || len(n.Kids) != 0 {
			t.Errorf("TypeNames of %v has %v", typ, n)
		}
		texts = append(texts, impl.FormatType(n))
	}
	if got := strings.Join(texts, " "); got != want {
		t.Errorf("TypeNames of %s = %s, want %s", impl.FormatType(typ), got, want)
	}
}

func TestTextsThatAreNoType(t *testing.T) {
	texts := []string{
		"", " ", "I ", " I", "II", "It", "tI", "tt", "i.t", "A", "A.", "A.I", "A.A", "A.tt", "A.t.u", "A..t", "AB.t", ".t", "t.", "t.u",
		"I.t", "I.", "A>t", "I>I", "()", "(", ")", ">", "(>)", "(t)", "(I)", "(I>)", "(>I)", "(I>I", "I>I)", "(I>I))", "((I>I)", "(I>I)I", "(I>I>I)",
		"(I> I)", "( I>I)", "(I-I)", "[I>I]", "(I>I]", "(I>I)\n", "t\x00", "\x00", "é", "(é>I)", "0", "_", "A,t", "a=I", "{", "`", "@", "[",
		strings.Repeat("(", 1000000), strings.Repeat("(I>", 1000000), strings.Repeat("t", 1000000),
	}
	for _, text := range texts {
		if got, ok := impl.ParseType(text); ok || !zeroType(got) {
			t.Errorf("ParseType(%.20q) = %v, %v", text, got, ok)
		}
	}
}

// TestAllShortTexts compares ParseType, for each text of a small alphabet, with a list of all types.
func TestAllShortTexts(t *testing.T) {
	const longest = 7
	valid := map[string]bool{}
	for _, text := range textsUpTo(longest) {
		valid[text] = true
	}
	var visit func(text string)
	visit = func(text string) {
		got, ok := impl.ParseType(text)
		if ok != valid[text] || impl.FormatType(got) != text && ok {
			t.Errorf("ParseType(%q) = %v, %v", text, got, ok)
		}
		if len(text) == longest {
			return
		}
		for _, c := range "(>)ItA." {
			visit(text + string(c))
		}
	}
	visit("")
}

// textsUpTo lists the texts of types with the names t and A.t that have at most this length.
func textsUpTo(length int) []string {
	if length <= 0 {
		return nil
	}
	texts := []string{"I", "t"}
	if length >= 3 {
		texts = append(texts, "A.t")
	}
	parts := textsUpTo(length - len("(>I)"))
	for _, a := range parts {
		for _, b := range parts {
			if text := "(" + a + ">" + b + ")"; len(text) <= length {
				texts = append(texts, text)
			}
		}
	}
	return texts
}

func invalidTypes() []impl.Type {
	types := []impl.Type{
		{}, {Kind: -1}, {Kind: 4}, {Kind: 5}, {Kind: 1 << 40}, {Kind: 0, Name: "t"}, {Kind: 4, Kids: []impl.Type{num, num}},
		{Kind: impl.TypeNum, Mod: "A"}, {Kind: impl.TypeNum, Name: "t"}, {Kind: impl.TypeNum, Name: "I"},
		{Kind: impl.TypeNum, Kids: []impl.Type{num}}, {Kind: impl.TypeNum, Kids: []impl.Type{num, num}},
		{Kind: impl.TypeFun}, {Kind: impl.TypeFun, Kids: []impl.Type{num}}, {Kind: impl.TypeFun, Kids: []impl.Type{num, num, num}},
		{Kind: impl.TypeFun, Mod: "A", Kids: []impl.Type{num, num}}, {Kind: impl.TypeFun, Name: "t", Kids: []impl.Type{num, num}},
		{Kind: impl.TypeName}, {Kind: impl.TypeName, Mod: "A"}, {Kind: impl.TypeName, Name: "t", Kids: []impl.Type{num}},
		{Kind: impl.TypeName, Name: "t", Kids: []impl.Type{num, num}},
	}
	for _, local := range []string{"A", "I", "tt", " ", "`", "{", "0", "é", "\xff", "A.t"} {
		types = append(types, name("", local), name("A", local))
	}
	for _, mod := range []string{"I", "t", "AA", " ", "@", "[", "É", "A."} {
		types = append(types, name(mod, "t"))
	}
	return types
}

func TestInvalidTypes(t *testing.T) {
	for _, x := range invalidTypes() {
		for _, y := range []impl.Type{x, fun(x, num), fun(num, x), fun(name("", "t"), fun(x, name("", "t")))} {
			checkInvalid(t, y)
		}
	}
}

func checkInvalid(t *testing.T, x impl.Type) {
	t.Helper()
	if impl.TypeValid(x) || impl.FormatType(x) != "" || impl.TypeCount(x) != 0 || len(impl.TypeNames(x)) != 0 {
		t.Errorf("%v: %v %q %d %v", x, impl.TypeValid(x), impl.FormatType(x), impl.TypeCount(x), impl.TypeNames(x))
	}
	if got, ok := impl.SubstType(x, nil); ok || !zeroType(got) {
		t.Errorf("SubstType of %v = %v, %v", x, got, ok)
	}
	if got, ok := impl.SubstType(num, []impl.Bind{{Name: "t", Type: x}}); ok || !zeroType(got) {
		t.Errorf("SubstType to %v = %v, %v", x, got, ok)
	}
	if !impl.TypeSame(x, x) || !impl.TypeSame(x, copyType(x)) {
		t.Errorf("%v is not the same as itself", x)
	}
}

func TestEmptyKidsAreNone(t *testing.T) {
	for _, x := range []impl.Type{num, name("", "t"), name("A", "t")} {
		y := x
		y.Kids = []impl.Type{}
		if !impl.TypeValid(y) || impl.FormatType(y) != impl.FormatType(x) || impl.TypeCount(y) != 1 || !impl.TypeSame(x, y) || !impl.TypeSame(y, x) {
			t.Errorf("%v is not treated as %v", y, x)
		}
	}
}

// checkLimit checks a type and its text, and the same type as the result of a substitution.
func checkLimit(t *testing.T, x impl.Type, text string, want bool) {
	t.Helper()
	got, ok := impl.ParseType(text)
	if ok != want || ok && !equalTypes(got, x) {
		t.Errorf("ParseType(%q) = %v", text, ok)
	}
	if !want {
		checkInvalid(t, x)
		return
	}
	if !impl.TypeValid(x) || impl.FormatType(x) != text || impl.TypeCount(x) != strings.Count(text, "I")+strings.Count(text, ">") {
		t.Errorf("%s is not accepted", text)
	}
	if y, ok := impl.SubstType(x, []impl.Bind{{Name: "t", Type: x}}); !ok || !equalTypes(x, y) {
		t.Errorf("SubstType of %s = %v, %v", text, y, ok)
	}
}

func TestDepthLimit(t *testing.T) {
	for depth := 1; depth <= 12; depth++ {
		want := depth <= 8
		checkLimit(t, chain(depth, true, num), strings.Repeat("(", depth-1)+"I"+strings.Repeat(">I)", depth-1), want)
		checkLimit(t, chain(depth, false, num), strings.Repeat("(I>", depth-1)+"I"+strings.Repeat(")", depth-1), want)
	}
}

func TestNodesLimit(t *testing.T) {
	wide, text := full(5, num), fullText(5, "I")
	checkLimit(t, full(6, num), fullText(6, "I"), true)
	checkLimit(t, fun(fun(num, num), fun(wide, fun(full(4, num), fun(full(3, num), num)))), "((I>I)>("+text+">("+fullText(4, "I")+">("+fullText(3, "I")+">I))))", true)
	checkLimit(t, fun(num, full(6, num)), "(I>"+fullText(6, "I")+")", false)
	checkLimit(t, fun(full(6, num), num), "("+fullText(6, "I")+">I)", false)
	checkLimit(t, fun(fun(num, num), full(6, num)), "((I>I)>"+fullText(6, "I")+")", false)
	checkLimit(t, full(7, num), fullText(7, "I"), false)
	checkLimit(t, full(8, num), fullText(8, "I"), false)
}

// A type in which each function has two operands has an odd number of nodes: with 64 of them, it has a wrong node.
func TestSixtyFourNodes(t *testing.T) {
	odd := impl.Type{Kind: impl.TypeFun, Kids: []impl.Type{num, num, num}}
	x := fun(full(5, num), fun(full(4, num), fun(full(3, num), fun(num, fun(num, odd)))))
	if n := countNodes(x); n != 64 {
		t.Fatalf("the type has %d nodes", n)
	}
	checkInvalid(t, x)
	checkInvalid(t, impl.Type{Kind: impl.TypeFun, Kids: []impl.Type{full(6, num)}})
}

func countNodes(x impl.Type) int {
	n := 1
	for _, k := range x.Kids {
		n += countNodes(k)
	}
	return n
}

func TestSubstType(t *testing.T) {
	tests := []struct{ typ, binds, want string }{
		{"(A.t>(t>I))", "t=(I>I)", "(A.t>((I>I)>I))"},
		{"(A.t>(t>I))", "A.t=t t=A.t", "(t>(A.t>I))"},
		{"(t>u)", "t=u u=t", "(u>t)"},
		{"(t>(u>v))", "t=u u=v v=t", "(u>(v>t))"},
		{"(t>u)", "t=(t>u) u=(u>t)", "((t>u)>(u>t))"},
		{"t", "t=t", "t"},
		{"t", "t=(t>t)", "(t>t)"},
		{"t", "t=u t=I", "u"},
		{"(t>t)", "t=u u=I t=I", "(u>u)"},
		{"(A.t>A.t)", "A.t=I A.t=u", "(I>I)"},
		{"t", "A.t=I", "t"},
		{"A.t", "t=I", "A.t"},
		{"A.t", "B.t=I A.u=I", "A.t"},
		{"(A.t>(B.t>t))", "B.t=I", "(A.t>(I>t))"},
		{"(A.t>B.t)", "A.t=B.t B.t=A.t", "(B.t>A.t)"},
		{"I", "t=u i=u", "I"},
		{"(I>i)", "i=A.i", "(I>A.i)"},
		{"(t>t)", "", "(t>t)"},
		{"((t>u)>(t>A.u))", "t=I u=A.u A.u=u", "((I>A.u)>(I>u))"},
	}
	for _, test := range tests {
		got, ok := impl.SubstType(parsed(t, test.typ), parsedBinds(t, test.binds))
		if !ok || impl.FormatType(got) != test.want {
			t.Errorf("%s with %s = %s, %v, want %s", test.typ, test.binds, impl.FormatType(got), ok, test.want)
		}
	}
}

func TestSubstTypeChecksUnusedBinds(t *testing.T) {
	good := impl.Bind{Name: "t", Type: num}
	bad := []impl.Bind{
		{}, {Name: "u"}, {Type: num}, {Name: "A", Type: num}, {Name: "I", Type: num}, {Name: "tt", Type: num}, {Mod: "A", Type: num},
		{Mod: "I", Name: "t", Type: num}, {Mod: "t", Name: "t", Type: num}, {Mod: "AA", Name: "t", Type: num},
		{Name: "u", Type: impl.Type{Kind: 4}}, {Name: "t", Type: impl.Type{}}, {Name: "u", Type: full(7, num)}, {Name: "u", Type: chain(9, true, num)},
	}
	for _, b := range bad {
		for _, binds := range [][]impl.Bind{{b}, {b, good}, {good, b}, {good, good, b}} {
			if got, ok := impl.SubstType(name("", "t"), binds); ok || !zeroType(got) {
				t.Errorf("SubstType with %v = %v, %v", binds, got, ok)
			}
		}
	}
}

func TestSubstTypeLimits(t *testing.T) {
	tests := []struct {
		typ, to impl.Type
		want    bool
	}{
		{chain(4, true, name("", "t")), chain(5, false, num), true},
		{chain(4, true, name("", "t")), chain(6, false, num), false},
		{chain(8, false, name("", "t")), num, true},
		{chain(8, false, name("", "t")), fun(num, num), false},
		{name("", "t"), chain(8, false, name("", "t")), true},
		{full(3, name("", "t")), full(4, name("", "t")), true},
		{full(3, name("", "t")), full(5, name("", "t")), false},
		{fun(name("", "t"), full(6, num)), num, false},
		{fun(name("", "t"), fun(full(4, num), full(5, num))), full(4, num), true},
		{fun(name("", "t"), fun(full(4, num), full(5, num))), fun(full(4, num), num), false},
		{fun(name("", "t"), fun(full(4, num), fun(full(4, num), full(4, num)))), full(4, num), true},
		{fun(name("", "t"), fun(full(4, num), fun(full(4, num), full(4, num)))), fun(num, full(4, num)), false},
		{full(6, name("", "t")), num, true},
		{full(6, name("", "t")), full(6, num), false},
	}
	for i, test := range tests {
		got, ok := impl.SubstType(test.typ, []impl.Bind{{Name: "t", Type: test.to}})
		if ok != test.want || ok != impl.TypeValid(got) || !ok && !zeroType(got) {
			t.Errorf("%d: SubstType = %v, %v", i, got, ok)
		}
	}
}

// TestSubstTypeInTexts compares SubstType with a replacement of names in texts.
func TestSubstTypeInTexts(t *testing.T) {
	random := rand.New(rand.NewSource(1))
	accepted, rejected := 0, 0
	for range 20000 {
		typ := randomType(random, 5)
		var binds []impl.Bind
		for range random.Intn(6) {
			n := randomName(random)
			binds = append(binds, impl.Bind{Mod: n.Mod, Name: n.Name, Type: randomType(random, 4)})
		}
		text := replaceNames(impl.FormatType(typ), binds)
		want, wantOk := impl.ParseType(text)
		got, ok := impl.SubstType(typ, binds)
		if ok != wantOk || !equalTypes(got, want) {
			t.Fatalf("SubstType of %s and %v = %s, %v, want %s", impl.FormatType(typ), binds, impl.FormatType(got), ok, text)
		}
		if ok {
			accepted++
		} else {
			rejected++
		}
	}
	if accepted < 1000 || rejected < 100 {
		t.Errorf("%d types are accepted, %d are too large", accepted, rejected)
	}
}

func randomName(random *rand.Rand) impl.Type {
	return name([]string{"", "A", "B"}[random.Intn(3)], []string{"t", "u"}[random.Intn(2)])
}

func randomType(random *rand.Rand, depth int) impl.Type {
	if depth > 1 && random.Intn(4) > 0 {
		return fun(randomType(random, depth-1), randomType(random, depth-1))
	}
	if random.Intn(4) == 0 {
		return num
	}
	return randomName(random)
}

func replaceNames(text string, binds []impl.Bind) string {
	result := ""
	for text != "" {
		size := 1
		if strings.HasPrefix(text[1:], ".") {
			size = 3
		}
		token := text[:size]
		text = text[size:]
		for _, b := range binds {
			if token == impl.FormatType(name(b.Mod, b.Name)) {
				token = impl.FormatType(b.Type)
				break
			}
		}
		result += token
	}
	return result
}

func TestTypeSame(t *testing.T) {
	kinds := append(invalidTypes(), num, name("", "t"), name("", "u"), name("A", "t"), name("B", "t"), fun(num, num), fun(name("", "t"), num), fun(num, name("", "t")))
	for _, a := range kinds {
		for _, b := range kinds {
			want := equalTypes(a, b)
			if impl.TypeSame(a, b) != want || impl.TypeSame(fun(num, fun(a, num)), fun(num, fun(b, num))) != want || impl.TypeSame(fun(a, b), fun(b, a)) != want {
				t.Errorf("TypeSame of %v and %v is not %v", a, b, want)
			}
		}
	}
}

func TestTypeSameFindsEachDifference(t *testing.T) {
	random := rand.New(rand.NewSource(2))
	for range 5000 {
		a := randomType(random, 6)
		b := copyType(a)
		if !impl.TypeSame(a, b) {
			t.Fatalf("%v is not the same as its copy", a)
		}
		at := &b
		for len(at.Kids) > 0 && random.Intn(5) > 0 {
			at = &at.Kids[random.Intn(len(at.Kids))]
		}
		switch random.Intn(4) {
		case 0:
			at.Kind += 10
		case 1:
			at.Mod += "A"
		case 2:
			at.Name += "t"
		case 3:
			at.Kids = append([]impl.Type{num}, at.Kids...)
		}
		if impl.TypeSame(a, b) || impl.TypeSame(b, a) {
			t.Fatalf("%v is the same as %v", a, b)
		}
	}
}

// loop is a type that contains itself after the given number of levels.
func loop(levels int, leaf impl.Type) impl.Type {
	first := []impl.Type{{}, leaf}
	t := impl.Type{Kind: impl.TypeFun, Kids: first}
	for range levels - 1 {
		t = fun(t, leaf)
	}
	first[0] = t
	return t
}

func TestTypesThatContainThemselves(t *testing.T) {
	for _, levels := range []int{1, 2, 7, 1000} {
		x := loop(levels, num)
		if impl.TypeValid(x) || impl.FormatType(x) != "" || impl.TypeCount(x) != 0 || len(impl.TypeNames(x)) != 0 {
			t.Error("a type that contains itself is valid")
		}
		if _, ok := impl.SubstType(num, []impl.Bind{{Name: "t", Type: x}}); ok {
			t.Error("a type that contains itself is substituted")
		}
		if !impl.TypeSame(x, x) || !impl.TypeSame(x, loop(levels, num)) || !impl.TypeSame(x, loop(levels+4999, num)) {
			t.Error("equal types that contain themselves are not the same")
		}
		if impl.TypeSame(x, loop(levels, name("", "t"))) || impl.TypeSame(loop(levels, name("", "t")), x) || impl.TypeSame(x, chain(20, true, num)) {
			t.Error("different types that contain themselves are the same")
		}
	}
}

func TestTypeSameOfLargeTypes(t *testing.T) {
	const depth = 200000
	if !impl.TypeSame(chain(depth, true, num), chain(depth, true, num)) || impl.TypeSame(chain(depth, true, num), chain(depth, true, name("", "t"))) {
		t.Error("TypeSame is wrong for deep types")
	}
	shared := func(leaf impl.Type) impl.Type { return sharedType(200, leaf) }
	if !impl.TypeSame(shared(num), shared(num)) || impl.TypeSame(shared(num), shared(name("", "t"))) {
		t.Error("TypeSame is wrong for types with shared parts")
	}
}

func TestResultsAreNewMemory(t *testing.T) {
	typ := fun(name("", "t"), fun(name("", "t"), name("", "u")))
	binds := []impl.Bind{{Name: "t", Type: fun(num, fun(num, num))}, {Name: "u", Type: fun(name("", "u"), num)}}
	const text, want = "(t>(t>u))", "((I>(I>I))>((I>(I>I))>(u>I)))"
	first, _ := impl.SubstType(typ, binds)
	second, _ := impl.SubstType(typ, binds)
	spoil(first)
	if impl.FormatType(second) != want || impl.FormatType(typ) != text || impl.FormatType(binds[0].Type) != "(I>(I>I))" || impl.FormatType(binds[1].Type) != "(u>I)" {
		t.Error("results of SubstType share memory")
	}
	spoil(second.Kids[0])
	if got := impl.FormatType(second.Kids[1]); got != "((I>(I>I))>(u>I))" {
		t.Errorf("parts of a result of SubstType share memory: %s", got)
	}
	same, _ := impl.SubstType(typ, nil)
	spoil(same)
	names := impl.TypeNames(typ)
	for i := range names[:cap(names)] {
		names[:cap(names)][i] = impl.Type{Kind: 77}
	}
	if impl.FormatType(typ) != text {
		t.Error("a result shares memory with its argument")
	}
}

func TestArgumentsAreNotChanged(t *testing.T) {
	backing := []impl.Type{name("", "t"), name("", "u"), name("", "v")}
	typ := impl.Type{Kind: impl.TypeFun, Kids: backing[:2]}
	binds := []impl.Bind{{Name: "t", Type: name("", "u")}, {Name: "u", Type: name("", "t")}, {Name: "v"}}
	impl.SubstType(typ, binds[:2])
	impl.TypeNames(typ)
	impl.TypeSame(typ, typ)
	impl.FormatType(typ)
	for i, n := range []string{"t", "u", "v"} {
		if backing[i].Name != n || binds[i].Name != n {
			t.Errorf("an argument has changed: %v %v", backing, binds)
		}
	}
}
