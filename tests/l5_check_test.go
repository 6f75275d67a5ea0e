package tests

import (
	"math/rand"
	"slices"
	"strings"
	"testing"

	"loop.example/modlink/impl"
)

// twoModules has a module with an abstract type and an alias, and one that uses both under the same names.
const twoModules = "A:{t;u=(t>I);z:t;f:u} B:{t=A.t;u;x:t;y:u;f:(t>A.u)}"

// quarter is a type with so many nodes that four of them make the largest one.
var quarter = fullText(4, "I")

func TestScopeValid(t *testing.T) {
	for _, test := range []struct {
		text string
		want bool
	}{
		{"", true},
		{"A:{}", true},
		{"Z:{} A:{}", true},
		{"A:{t;z:t;s:(t>t)}", true},
		{twoModules, true},
		{"B:{t} A:{x:B.t}", true},
		{"A:{t=I} B:{t=A.t} C:{x:(A.t>B.t)}", true},
		{"A:{t;t:t} B:{x:A.t}", true},
		{"A:{t} B:{t} C:{t}", true},
		{"A:{x:I} B:{x:I}", true},
		// Names are different.
		{"A:{} A:{}", false},
		{"A:{t} A:{u}", false},
		{"A:{} B:{} A:{}", false},
		// Modules come before they are mentioned.
		{"B:{x:A.t}", false},
		{"B:{x:A.t} A:{t}", false},
		{"A:{t;x:A.t}", false},
		{"A:{t=A.t}", false},
		{"A:{t;u=(t>A.t)}", false},
		{"A:{x:B.t} B:{t=A.t}", false},
		{"A:{t} B:{t=A.t} C:{x:D.t} D:{t}", false},
		// They have the types that are mentioned.
		{"A:{t} B:{x:A.u}", false},
		{"A:{} B:{x:A.t}", false},
		{"A:{t:I} B:{x:A.t}", false},
		{"A:{t} B:{t=A.u}", false},
		{"A:{t} B:{t=A.t;x:(t>(A.u>I))}", false},
		{"A:{t} B:{x:A.t;y:A.u}", false},
		{"A:{t} B:{u} C:{x:A.u}", false},
		{"A:{t} B:{u=A.t} C:{x:B.t}", false},
		// They have normal types.
		{"A:" + tooLarge, false},
		{"A:{} B:" + tooLarge + " C:{}", false},
	} {
		if got := impl.ScopeValid(parsedScope(t, test.text)); got != test.want || isScopeText(test.text) != test.want {
			t.Errorf("ScopeValid(%s) = %v, isScopeText is %v", test.text, got, isScopeText(test.text))
		}
	}
}

func TestScopeNames(t *testing.T) {
	for _, n := range strings.Split("ABCDEFGHJKLMNOPQRSTUVWXYZ", "") {
		if !impl.ScopeValid(modules(module(n, nil))) {
			t.Errorf("a scope with %s is not valid", n)
		}
	}
	for _, n := range []string{"", "I", "a", "z", "AA", "A ", " A", "A.", "@", "[", "1", "É", "A\x00", "\xff"} {
		checkInvalidScope(t, modules(module(n, nil)))
		checkInvalidScope(t, modules(module("A", nil), module(n, nil)))
	}
}

func TestImportsLimit(t *testing.T) {
	for count := 6; count <= 25; count++ {
		var scope []impl.Import
		for i, n := range strings.Split("ZYXWVUTSRQPONMLKJHGFEDCBA", "")[:count] {
			sig := "{t}"
			if i > 0 {
				sig = "{t=" + scope[i-1].Name + ".t;x:(t>" + scope[0].Name + ".t)}"
			}
			scope = append(scope, module(n, parsedSig(t, sig)))
		}
		if count > 8 {
			checkInvalidScope(t, scope)
			continue
		}
		got, code := impl.ResolveType(scope, name(scope[count-1].Name, "t"))
		if !impl.ScopeValid(scope) || code != impl.CheckOk || impl.FormatType(got) != "Z.t" {
			t.Errorf("%d modules: %s, %d", count, impl.FormatType(got), code)
		}
	}
	checkInvalidScope(t, make([]impl.Import, 1000000))
}

// TestSigLimitsInScopes has signatures whose normal types or numbers of items are at their limits.
func TestSigLimitsInScopes(t *testing.T) {
	eight := "a:I;b:I;c:I;d:I;e:I;f:I;g:I"
	for _, test := range []struct {
		sig  string
		want bool
	}{
		{"{t=" + quarter + ";u=((t>t)>(t>t))}", true},
		{"{t=" + quarter + ";u=((t>t)>(t>t));x:u}", true},
		{"{t=" + quarter + ";u=((t>t)>(t>t));x:(u>I)}", false},
		{"{t=" + quarter + ";u=((t>t)>(t>(t>I)))}", false},
		{"{t;u=" + chainText(8) + ";x:u}", true},
		{"{t;u=" + chainText(8) + ";x:(t>u)}", false},
		{"{" + eight + ";t}", true},
	} {
		if smallTypes(normalText(test.sig)) != test.want {
			t.Fatalf("smallTypes of %s is not %v", test.sig, test.want)
		}
		for _, around := range []string{"A:*", "B:{} A:*", "A:* B:{}"} {
			scope := parsedScope(t, strings.Replace(around, "*", test.sig, 1))
			if got := impl.ScopeValid(scope); got != test.want {
				t.Errorf("ScopeValid with %s = %v", test.sig, got)
			}
		}
	}
	nine := append(parsedSig(t, "{"+eight+";t}"), val("h", num))
	checkInvalidScope(t, modules(module("A", nine)))
}

// checkInvalidScope checks that no function accepts the scope, whatever else it is given.
func checkInvalidScope(t *testing.T, scope []impl.Import) {
	t.Helper()
	if impl.ScopeValid(scope) {
		t.Errorf("ScopeValid(%.80s) is true", scopeText(scope))
	}
	checkNoType(t, scope, impl.CheckInvalid, num, name("A", "t"), name("C", "t"), impl.Type{})
	checkNoSig(t, scope, impl.CheckInvalid, nil, items(val("x", num)), items(val("x", name("C", "t"))), items(impl.SigItem{}))
	checkNoExprType(t, scope, impl.CheckInvalid, number(1), path("A", "x"), path("", "x"), variable(0), call(number(1), number(1)), impl.Expr{})
	checkNoPrincipal(t, scope, impl.CheckInvalid, nil, defs(valDef("x", number(1))), defs(impl.Item{}))
	for _, mod := range []string{"A", "C", ""} {
		if x, code := impl.PathType(scope, mod, "x"); code != impl.CheckInvalid || !zeroType(x) {
			t.Errorf("PathType(%.80s, %q) = %v, %d", scopeText(scope), mod, x, code)
		}
	}
	for _, s := range [][]impl.SigItem{nil, items(val("x", num)), items(val("x", name("C", "t"))), items(impl.SigItem{})} {
		if impl.MatchIn(scope, s, nil) != impl.MatchInvalid || impl.MatchIn(scope, nil, s) != impl.MatchInvalid {
			t.Errorf("MatchIn accepts %.80s", scopeText(scope))
		}
	}
}

func checkNoType(t *testing.T, scope []impl.Import, code int, types ...impl.Type) {
	t.Helper()
	for _, x := range types {
		if got, k := impl.ResolveType(scope, x); k != code || !zeroType(got) {
			t.Errorf("ResolveType(%.80s, %.80s) = %v, %d, want %d", scopeText(scope), impl.FormatType(x), got, k, code)
		}
	}
}

func checkNoSig(t *testing.T, scope []impl.Import, code int, sigs ...[]impl.SigItem) {
	t.Helper()
	for _, s := range sigs {
		if got, k := impl.ResolveSig(scope, s); k != code || len(got) != 0 {
			t.Errorf("ResolveSig(%.80s, %.80s) = %v, %d, want %d", scopeText(scope), impl.FormatSig(s), got, k, code)
		}
	}
}

func TestInvalidSigsInScopes(t *testing.T) {
	first, last := module("A", items(abstract("t"))), module("C", items(val("x", name("A", "t"))))
	bad := [][]impl.SigItem{items(abstract("t"), abstract("t")), items(val("x", num), val("x", num)), items(val("x", name("", "t")), abstract("t"))}
	for _, x := range append(invalidItems(), val("x", loop(1, num)), alias("x", loop(1000, num)), val("x", sharedType(200, num)), impl.SigItem{Kind: impl.SigAbstract, Name: "x", Type: loop(2, num)}) {
		bad = append(bad, items(x), items(abstract("t"), x))
	}
	for _, s := range bad {
		checkInvalidScope(t, modules(module("B", s)))
		checkInvalidScope(t, modules(first, module("B", s)))
		checkInvalidScope(t, modules(first, module("B", s), last))
		scope := modules(first, module("B", nil), last)
		checkNoSig(t, scope, impl.CheckInvalid, s)
		for _, other := range [][]impl.SigItem{nil, items(val("x", name("A", "t"))), items(val("x", name("D", "t"))), parsedSig(t, tooLarge), s} {
			if impl.MatchIn(scope, s, other) != impl.MatchInvalid || impl.MatchIn(scope, other, s) != impl.MatchInvalid {
				t.Errorf("MatchIn accepts %s", impl.FormatSig(s))
			}
		}
	}
}

func TestResolveType(t *testing.T) {
	for _, test := range []struct {
		scope, typ, want string
		code             int
	}{
		{"", "I", "I", impl.CheckOk},
		{"", "(t>(u>I))", "(t>(u>I))", impl.CheckOk},
		{"A:{t}", "A.t", "A.t", impl.CheckOk},
		{"A:{t=I}", "A.t", "I", impl.CheckOk},
		{"A:{t;u=t;v=u}", "(A.v>A.u)", "(A.t>A.t)", impl.CheckOk},
		{"A:{u;t=(u>u)}", "A.t", "(A.u>A.u)", impl.CheckOk},
		{twoModules, "(B.t>A.u)", "(A.t>(A.t>I))", impl.CheckOk},
		{twoModules, "(A.t>(B.t>B.u))", "(A.t>(A.t>B.u))", impl.CheckOk},
		{"A:{t} B:{t=A.t} C:{t=B.t} D:{t=(C.t>B.t)}", "(D.t>C.t)", "((A.t>A.t)>A.t)", impl.CheckOk},
		{"A:{t} B:{t} C:{t=A.t;u=B.t}", "(C.t>C.u)", "(A.t>B.t)", impl.CheckOk},
		{"A:{t} B:{u=A.t;t=(u>A.t)} C:{t=I;u=(B.t>t)}", "C.u", "((A.t>A.t)>I)", impl.CheckOk},
		// A type of the place has nothing to do with types of modules of the same name.
		{"A:{t;u=I}", "(t>(A.t>u))", "(t>(A.t>u))", impl.CheckOk},
		{"A:{t=I}", "(t>A.t)", "(t>I)", impl.CheckOk},
		{"A:{t;u=(t>t)}", "(t>A.u)", "(t>(A.t>A.t))", impl.CheckOk},
		// A name is not known.
		{"", "A.t", "", impl.CheckName},
		{"A:{t}", "B.t", "", impl.CheckName},
		{"A:{t}", "A.u", "", impl.CheckName},
		{"A:{t:I}", "A.t", "", impl.CheckName},
		{twoModules, "A.z", "", impl.CheckName},
		{twoModules, "(I>(A.t>C.t))", "", impl.CheckName},
		{"A:{t} B:{u=A.t}", "B.t", "", impl.CheckName},
		{"A:{t} B:{u=A.t}", "(A.t>A.u)", "", impl.CheckName},
	} {
		checkResolved(t, test.scope, test.typ, test.want, test.code)
	}
}

// checkResolved checks ResolveType, and the functions that resolve the same type in another way.
func checkResolved(t *testing.T, scope, typ, want string, code int) {
	t.Helper()
	list := parsedScope(t, scope)
	got, k := impl.ResolveType(list, parsed(t, typ))
	if k != code || impl.FormatType(got) != want || code != impl.CheckOk && !zeroType(got) {
		t.Errorf("ResolveType(%.80s, %.80s) = %s, %d, want %s, %d", scope, typ, impl.FormatType(got), k, want, code)
	}
	if text, k := newTextChecker(scope).resolve(typ); k != code || text != want {
		t.Errorf("textChecker(%.80s).resolve(%.80s) = %s, %d", scope, typ, text, k)
	}
	sig, wantSig := "{t;u;x:"+typ+"}", ""
	if code == impl.CheckOk {
		wantSig = "{t;u;x:" + want + "}"
		checkResolvedAgain(t, list, got)
	}
	if s, k := impl.ResolveSig(list, parsedSig(t, sig)); k != code || code == impl.CheckOk && impl.FormatSig(s) != wantSig || code != impl.CheckOk && len(s) != 0 {
		t.Errorf("ResolveSig(%.80s, %.80s) = %s, %d, want %d", scope, sig, impl.FormatSig(s), k, code)
	}
}

// checkResolvedAgain checks that a resolved type has no names of modules but those of abstract types.
func checkResolvedAgain(t *testing.T, scope []impl.Import, x impl.Type) {
	t.Helper()
	again, code := impl.ResolveType(scope, x)
	if code != impl.CheckOk || !equalTypes(again, x) {
		t.Errorf("%s resolved again is %s, %d", impl.FormatType(x), impl.FormatType(again), code)
	}
	for _, n := range impl.TypeNames(x) {
		at := slices.IndexFunc(scope, func(m impl.Import) bool { return m.Name == n.Mod })
		if n.Mod != "" && !slices.ContainsFunc(scope[at].Sig, func(item impl.SigItem) bool { return item.Kind == impl.SigAbstract && item.Name == n.Name }) {
			t.Errorf("%s mentions %s.%s", impl.FormatType(x), n.Mod, n.Name)
		}
	}
}

// TestResolvedTypeLimits has types that are within the limits, but not all of them when they are resolved.
func TestResolvedTypeLimits(t *testing.T) {
	for _, test := range []struct {
		means, typ   string
		depth, nodes int
	}{
		{quarter, "((A.t>A.t)>(A.t>A.t))", 6, 63},
		{quarter, "((A.t>A.t)>(A.t>(A.t>I)))", 7, 65},
		{quarter, "((A.t>A.t)>(A.t>(I>I)))", 6, 51},
		{fullText(6, "I"), "A.t", 6, 63},
		{fullText(6, "I"), "(A.t>I)", 7, 65},
		{fullText(6, "I"), "(I>A.t)", 7, 65},
		{chainText(5), "(I>(I>(I>A.t)))", 8, 15},
		{chainText(5), "(I>(I>(I>(I>A.t))))", 9, 17},
		{chainText(5), "(((A.t>I)>I)>I)", 8, 15},
		{chainText(8), "A.t", 8, 15},
		{chainText(8), "(A.t>I)", 9, 17},
		{fullText(6, "I"), fullText(6, "A.t"), 11, 2047},
	} {
		becomes := strings.ReplaceAll(test.typ, "A.t", test.means)
		if depth, nodes := largestNormal("{x:" + becomes + "}"); depth != test.depth || nodes != test.nodes {
			t.Fatalf("%s has depth %d and %d nodes", becomes, depth, nodes)
		}
		want, code := becomes, impl.CheckOk
		if test.depth > 8 || test.nodes > 63 {
			want, code = "", impl.CheckLarge
		}
		scope := "A:{t=" + test.means + "}"
		checkResolved(t, scope, test.typ, want, code)
		// By way of another module, which is in the scope whatever its type becomes.
		scope += " B:{u=" + test.typ + ";x:u}"
		checkResolved(t, scope, "B.u", want, code)
		if x, k := impl.PathType(parsedScope(t, scope), "B", "x"); k != code || impl.FormatType(x) != want {
			t.Errorf("PathType(%s, B, x) = %s, %d", scope, impl.FormatType(x), k)
		}
		// A name that is not known comes first, wherever it is.
		for _, typ := range []string{"(B.u>C.t)", "(C.t>B.u)", "(B.u>(B.u>B.t))"} {
			checkResolved(t, scope, typ, "", impl.CheckName)
		}
	}
}

// TestTypesThatGrowFromModuleToModule has types that would become larger than any memory.
func TestTypesThatGrowFromModuleToModule(t *testing.T) {
	scope := "A:{t=" + fullText(6, "I") + "}"
	for i, n := range strings.Split("BCDEFGH", "") {
		scope += " " + n + ":{t=" + fullText(6, "ABCDEFG"[i:i+1]+".t") + ";x:t}"
	}
	if !impl.ScopeValid(parsedScope(t, scope)) {
		t.Fatal("a scope with large types is not valid")
	}
	for _, n := range []string{"B.t", "D.t", "H.t", "(A.t>H.t)"} {
		checkResolved(t, scope, n, "", impl.CheckLarge)
	}
	checkResolved(t, scope, "A.t", fullText(6, "I"), impl.CheckOk)
	checkResolved(t, scope, "(H.t>H.u)", "", impl.CheckName)
	if x, code := impl.PathType(parsedScope(t, scope), "H", "x"); code != impl.CheckLarge || !zeroType(x) {
		t.Errorf("PathType = %v, %d", x, code)
	}
	many := parsedSig(t, "{t=H.t;u=H.t;v=G.t;w=(F.t>H.t);x:H.t;y:G.t}")
	checkNoSig(t, parsedScope(t, scope), impl.CheckLarge, many)
	if got := impl.MatchIn(parsedScope(t, scope), many, many); got != impl.MatchLarge {
		t.Errorf("MatchIn = %d", got)
	}
}

func TestResolveInvalidTypes(t *testing.T) {
	scope := parsedScope(t, twoModules)
	for _, x := range append(invalidTypes(), loop(1, num), loop(7, num), loop(1000, num), sharedType(200, num), chain(9, true, num), chain(9, false, num), full(7, num), fun(num, full(6, num))) {
		checkNoType(t, scope, impl.CheckInvalid, x, fun(x, num), fun(name("C", "t"), x))
		checkNoType(t, nil, impl.CheckInvalid, x)
	}
	half := full(5, name("A", "t"))
	shared := fun(half, half)
	if got, code := impl.ResolveType(scope, shared); code != impl.CheckOk || !equalTypes(got, shared) {
		t.Errorf("a type with shared parts is resolved to %s, %d", impl.FormatType(got), code)
	}
}

func TestResolveSig(t *testing.T) {
	for _, test := range []struct {
		scope, sig, want string
		code             int
	}{
		{"", "{}", "{}", impl.CheckOk},
		{"", "{t;u=(t>I);x:u}", "{t;u=(t>I);x:u}", impl.CheckOk},
		{twoModules, "{v;x:(v>B.t)}", "{v;x:(v>A.t)}", impl.CheckOk},
		{twoModules, "{t=B.t;x:(t>A.u);u;y:(B.u>u)}", "{t=A.t;x:(t>(A.t>I));u;y:(B.u>u)}", impl.CheckOk},
		{twoModules, "{t;t:B.t;u=A.t}", "{t;t:A.t;u=A.t}", impl.CheckOk},
		{"A:{t=I}", "{a=A.t;b=(A.t>a);c=A.t;d:A.t;e:b;f:(A.t>I);g;h:(g>A.t)}", "{a=I;b=(I>a);c=I;d:I;e:b;f:(I>I);g;h:(g>I)}", impl.CheckOk},
		{twoModules, "{x:C.t}", "", impl.CheckName},
		{twoModules, "{t=A.z}", "", impl.CheckName},
		{twoModules, "{t=A.t;x:I;y:(I>B.z)}", "", impl.CheckName},
		{twoModules, tooLarge, "", impl.CheckLarge},
		// The first item that is not resolved decides.
		{"A:{t=" + quarter + "} B:{t=((A.t>A.t)>(A.t>A.t));u=(t>t)}", "{x:B.u}", "", impl.CheckLarge},
		{"A:{t=" + quarter + "} B:{t=((A.t>A.t)>(A.t>A.t));u=(A.t>(A.t>(A.t>(A.t>A.t))))}", "{x:B.u;y:B.v}", "", impl.CheckLarge},
		{"A:{t=" + quarter + "} B:{t=((A.t>A.t)>(A.t>A.t));u=(A.t>(A.t>(A.t>(A.t>A.t))))}", "{y:B.v;x:B.u}", "", impl.CheckName},
		{"A:{t=" + quarter + "} B:{t=((A.t>A.t)>(A.t>A.t));u=(A.t>(A.t>(A.t>(A.t>A.t))))}", "{y:(B.u>B.v)}", "", impl.CheckName},
		// A name that is not known comes before a signature without normal types.
		{twoModules, strings.Replace(tooLarge, "x:v", "x:C.t", 1), "", impl.CheckName},
		// Each type is within the limits, but not the normal type.
		{"A:{t=" + quarter + "}", "{t=A.t;u=((t>t)>(t>t));x:u}", "{t=" + quarter + ";u=((t>t)>(t>t));x:u}", impl.CheckOk},
		{"A:{t=" + quarter + "}", "{t=A.t;u=((t>t)>(t>t));x:(u>I)}", "", impl.CheckLarge},
		{"A:{t=" + quarter + "}", "{t=A.t;u=((t>t)>(t>(t>I)))}", "", impl.CheckLarge},
		{"A:{t=" + chainText(5) + "}", "{t=A.t;x:(I>(I>(I>t)))}", "{t=" + chainText(5) + ";x:(I>(I>(I>t)))}", impl.CheckOk},
		{"A:{t=" + chainText(5) + "}", "{t=A.t;x:(I>(I>(I>(I>t))))}", "", impl.CheckLarge},
	} {
		scope := parsedScope(t, test.scope)
		got, code := impl.ResolveSig(scope, parsedSig(t, test.sig))
		if code != test.code || code == impl.CheckOk && impl.FormatSig(got) != test.want || code != impl.CheckOk && len(got) != 0 {
			t.Errorf("ResolveSig(%s, %s) = %s, %d", test.scope, test.sig, impl.FormatSig(got), code)
		}
		if text, code := newTextChecker(test.scope).resolveSig(test.sig); code != test.code || text != test.want {
			t.Errorf("textChecker(%s).resolveSig(%s) = %s, %d", test.scope, test.sig, text, code)
		}
	}
}

func TestPathType(t *testing.T) {
	for _, test := range []struct {
		scope, path, want string
		code              int
	}{
		{"A:{x:I}", "A.x", "I", impl.CheckOk},
		{twoModules, "A.z", "A.t", impl.CheckOk},
		{twoModules, "A.f", "(A.t>I)", impl.CheckOk},
		{twoModules, "B.x", "A.t", impl.CheckOk},
		{twoModules, "B.y", "B.u", impl.CheckOk},
		{twoModules, "B.f", "(A.t>(A.t>I))", impl.CheckOk},
		{"A:{t=I;t:(t>t)}", "A.t", "(I>I)", impl.CheckOk},
		{"A:{t:I;t}", "A.t", "I", impl.CheckOk},
		{"A:{t;u=t;v=(u>t);x:(v>u)}", "A.x", "((A.t>A.t)>A.t)", impl.CheckOk},
		{"A:{t} B:{t;x:(t>A.t)}", "B.x", "(B.t>A.t)", impl.CheckOk},
		{"A:{t} B:{t;x:(A.t>t)} C:{t=B.t;u;x:(t>(u>A.t))}", "C.x", "(B.t>(C.u>A.t))", impl.CheckOk},
		{"", "A.x", "", impl.CheckName},
		{"A:{}", "A.x", "", impl.CheckName},
		{"A:{x:I}", "B.x", "", impl.CheckName},
		{"A:{x:I}", "A.y", "", impl.CheckName},
		{"A:{x}", "A.x", "", impl.CheckName},
		{"A:{x=I}", "A.x", "", impl.CheckName},
		{"A:{x:I} B:{y:I}", "A.y", "", impl.CheckName},
		// Names that are no names.
		{"A:{x:I}", ".x", "", impl.CheckName},
		{"A:{x:I}", "A.", "", impl.CheckName},
		{"A:{x:I}", ".", "", impl.CheckName},
		{"A:{x:I}", "a.x", "", impl.CheckName},
		{"A:{x:I}", "A.X", "", impl.CheckName},
		{"A:{x:I}", "AA.x", "", impl.CheckName},
		{"A:{x:I}", "A.xx", "", impl.CheckName},
		{"A:{x:I}", "A.x\x00", "", impl.CheckName},
		{"A:{x:I}", "I.x", "", impl.CheckName},
		{"A:{x:I}", "\xff.\xff", "", impl.CheckName},
	} {
		mod, n, _ := strings.Cut(test.path, ".")
		got, code := impl.PathType(parsedScope(t, test.scope), mod, n)
		if code != test.code || impl.FormatType(got) != test.want || code != impl.CheckOk && !zeroType(got) {
			t.Errorf("PathType(%s, %q, %q) = %s, %d", test.scope, mod, n, impl.FormatType(got), code)
		}
	}
}

func TestMatchIn(t *testing.T) {
	const equal = "A:{t;u} B:{t=A.t;u} C:{t=I;v=(A.t>B.u)}"
	for _, test := range []struct {
		scope, have, want string
		code              int
	}{
		{"", "{}", "{}", impl.MatchOk},
		{"", "{t=I;x:t}", "{t;x:t}", impl.MatchOk},
		{"", "{t;x:t}", "{t=I;x:t}", impl.MatchType},
		// Aliases are transparent.
		{equal, "{x:B.t}", "{x:A.t}", impl.MatchOk},
		{equal, "{x:A.t}", "{x:B.t}", impl.MatchOk},
		{equal, "{t=B.t}", "{t=A.t}", impl.MatchOk},
		{equal, "{t=A.t}", "{t=B.t}", impl.MatchOk},
		{equal, "{x:C.v}", "{x:(B.t>B.u)}", impl.MatchOk},
		{equal, "{x:(C.t>C.v)}", "{x:(I>(A.t>B.u))}", impl.MatchOk},
		{equal, "{t=I;x:t}", "{t=C.t;x:t}", impl.MatchOk},
		{equal, "{t=B.t;x:A.t}", "{t;x:t}", impl.MatchOk},
		{equal, "{t=A.t;u=B.t;x:(t>u)}", "{u;x:(u>u)}", impl.MatchOk},
		// Abstract types are equal to themselves only.
		{equal, "{x:A.t}", "{x:A.u}", impl.MatchValue},
		{equal, "{x:A.u}", "{x:B.u}", impl.MatchValue},
		{equal, "{t=A.u}", "{t=B.u}", impl.MatchType},
		{equal, "{x:A.t}", "{x:I}", impl.MatchValue},
		{equal, "{x:C.t}", "{x:A.t}", impl.MatchValue},
		{equal, "{t;x:t}", "{t;x:A.t}", impl.MatchValue},
		{equal, "{t=A.u;x:A.u}", "{t;x:B.u}", impl.MatchValue},
		{equal, "{t=A.t}", "{t=A.u}", impl.MatchType},
		{equal, "{t;u=t}", "{t;u=A.t}", impl.MatchType},
		// Other codes of MatchSig.
		{equal, "{x:A.t}", "{y:A.t}", impl.MatchMissing},
		{equal, "{x:A.t}", "{x}", impl.MatchMissing},
		{equal, "{x:A.t}", "{x:I;y:I}", impl.MatchValue},
		{"A:{t=" + quarter + "}", "{t=A.t;x:I}", "{t;x:((t>t)>(t>t))}", impl.MatchValue},
		{"A:{t=" + quarter + "}", "{t=A.t;x:I}", "{t;x:((t>t)>(t>(t>I)))}", impl.MatchLarge},
		{"A:{t=" + quarter + "}", "{t=A.t;x:I}", "{t;x:((t>t)>(t>(t>A.t)))}", impl.MatchLarge},
	} {
		checkMatchIn(t, test.scope, test.have, test.want, test.code)
	}
}

func checkMatchIn(t *testing.T, scope, have, want string, code int) {
	t.Helper()
	if got := impl.MatchIn(parsedScope(t, scope), parsedSig(t, have), parsedSig(t, want)); got != code {
		t.Errorf("MatchIn(%s, %s, %s) = %d, want %d", scope, have, want, got, code)
	}
	if got := matchInTexts(scope, have, want); got != code {
		t.Errorf("matchInTexts(%s, %s, %s) = %d, want %d", scope, have, want, got, code)
	}
}

// matchInTexts decides by replacements in texts what MatchIn should return for valid arguments.
func matchInTexts(scope, have, want string) int {
	c := newTextChecker(scope)
	have, codeHave := c.resolveSig(have)
	want, codeWant := c.resolveSig(want)
	switch {
	case codeHave == impl.CheckName || codeWant == impl.CheckName:
		return impl.MatchMissing
	case codeHave != impl.CheckOk || codeWant != impl.CheckOk:
		return impl.MatchLarge
	}
	code, _, _, _ := matchTexts(have, want)
	return code
}

// TestMatchInOfSigsThatAreNotResolved has all pairs of signatures of which one is not resolved.
func TestMatchInOfSigsThatAreNotResolved(t *testing.T) {
	const scope = "A:{t=((I>I)>(I>I))} B:{t=((A.t>A.t)>(A.t>A.t));u=((t>t)>t)} C:{t}"
	good := []string{"{}", "{x:I}", "{t;x:t}", "{t=B.t;x:(t>C.t)}"}
	unknown := []string{"{x:D.t}", "{t=C.u}", "{t;x:(t>B.v)}", "{y:D.t;x:B.u}", strings.Replace(tooLarge, "x:v", "x:C.u", 1)}
	large := []string{"{x:B.u}", "{x:B.u;y:D.t}", "{t=B.t;u=(t>(t>A.t))}", tooLarge, strings.Replace(tooLarge, "x:v", "x:C.t", 1)}
	for _, list := range []struct {
		sigs []string
		code int
	}{{unknown, impl.MatchMissing}, {large, impl.MatchLarge}} {
		for _, s := range list.sigs {
			for _, other := range slices.Concat(good, list.sigs) {
				checkMatchIn(t, scope, s, other, list.code)
				checkMatchIn(t, scope, other, s, list.code)
			}
		}
	}
	for _, s := range unknown {
		for _, other := range large {
			checkMatchIn(t, scope, s, other, impl.MatchMissing)
			checkMatchIn(t, scope, other, s, impl.MatchMissing)
		}
	}
}

// TestRandomScopes changes texts of scopes, and compares ScopeValid with a reading by splitting.
func TestRandomScopes(t *testing.T) {
	random := rand.New(rand.NewSource(16))
	accepted, rejected := 0, 0
	for range 20000 {
		text := randomScopeText(random, 3)
		scope := parsedScope(t, text)
		if !impl.ScopeValid(scope) || !isScopeText(text) {
			t.Fatalf("ScopeValid(%s) is %v", text, impl.ScopeValid(scope))
		}
		if len(scope) == 0 {
			continue
		}
		i, j := random.Intn(len(scope)), random.Intn(len(scope))
		parts := strings.Fields(text)
		switch random.Intn(4) {
		case 0:
			parts[i], parts[j] = parts[j], parts[i]
		case 1:
			parts = slices.Delete(parts, i, i+1)
		case 2:
			parts[i] = parts[j][:1] + parts[i][1:]
		case 3:
			parts[i] = parts[i][:2] + randomSigOver(random, []string{"I", "A.t", "B.t", "C.u"}, 3, 3)
		}
		text = strings.Join(parts, " ")
		want := isScopeText(text)
		if want {
			accepted++
		} else {
			rejected++
		}
		if impl.ScopeValid(parsedScope(t, text)) != want {
			t.Fatalf("ScopeValid(%s) is not %v", text, want)
		}
	}
	if accepted < 1000 || rejected < 1000 {
		t.Errorf("%d scopes are accepted, %d are not", accepted, rejected)
	}
}

// TestRandomResolution compares ResolveType, ResolveSig, PathType and MatchIn with replacements in texts.
func TestRandomResolution(t *testing.T) {
	random := rand.New(rand.NewSource(17))
	codes, matches := map[int]int{}, map[int]int{}
	for range 6000 {
		text := randomScopeText(random, 2+random.Intn(4))
		scope, c := parsedScope(t, text), newTextChecker(text)
		known := append(mapKeys(c.types), "I", "t")
		for range 5 {
			leaves := known
			if random.Intn(4) == 0 {
				leaves = slices.Concat(known, []string{"A.t", "B.u", "C.v", "D.w"})
			}
			typ := randomTypeOver(random, leaves, 1+random.Intn(6))
			want, code := c.resolve(typ)
			checkResolved(t, text, typ, want, code)
			codes[code]++
		}
		for _, n := range append(mapKeys(c.vals), "A.t", "B.u", "C.v") {
			want, code := "", impl.CheckName
			if c.vals[n] != "" {
				want, code = c.resolve(c.vals[n])
			}
			if got, k := impl.PathType(scope, n[:1], n[2:]); k != code || impl.FormatType(got) != want {
				t.Fatalf("PathType(%s, %s) = %s, %d, want %s, %d", text, n, impl.FormatType(got), k, want, code)
			}
		}
		have := randomSigOver(random, append(mapKeys(c.types), "I"), 2+random.Intn(4), 6)
		want := weakerText(random, have)
		checkMatchIn(t, text, have, want, matchInTexts(text, have, want))
		if resolved, code := c.resolveSig(have); code == impl.CheckOk && random.Intn(2) > 0 {
			want = weakerText(random, resolved)
			checkMatchIn(t, text, have, want, impl.MatchOk)
		}
		want = changedText(random, want)
		matches[matchInTexts(text, have, want)]++
		checkMatchIn(t, text, have, want, matchInTexts(text, have, want))
	}
	checkCodes(t, codes, impl.CheckOk, impl.CheckName, impl.CheckLarge)
	checkCodes(t, matches, impl.MatchOk, impl.MatchMissing, impl.MatchType, impl.MatchValue, impl.MatchLarge)
}

func mapKeys(m map[string]string) []string {
	var list []string
	for key := range m {
		list = append(list, key)
	}
	slices.Sort(list)
	return list
}

// TestTypesAreComparedByWhatTheyMean checks promise 5 for all pairs of types of random scopes.
func TestTypesAreComparedByWhatTheyMean(t *testing.T) {
	random := rand.New(rand.NewSource(18))
	same, different := 0, 0
	for range 1500 {
		text := randomScopeText(random, 2)
		scope, c := parsedScope(t, text), newTextChecker(text)
		names := mapKeys(c.types)
		for _, m := range names {
			for _, n := range names {
				first, code := c.resolve(m)
				second, codeSecond := c.resolve(n)
				if code != impl.CheckOk || codeSecond != impl.CheckOk {
					continue
				}
				checkComparison(t, scope, m, n, first == second)
				if first == second {
					same++
				} else {
					different++
				}
			}
		}
	}
	if same < 1000 || different < 1000 {
		t.Errorf("%d types are the same, %d are not", same, different)
	}
}

// checkComparison compares two types by the rules for calls, choices and items.
func checkComparison(t *testing.T, scope []impl.Import, m, n string, same bool) {
	t.Helper()
	for pattern, wants := range map[string][2]int{
		"?<1,[M]1,[N]1>":  {impl.CheckOk, impl.CheckType},
		"[N]([M]1 #0)":    {impl.CheckOk, impl.CheckType},
		"([(M>I)]1 [N]1)": {impl.CheckOk, impl.CheckType},
	} {
		want := wants[1]
		if same {
			want = wants[0]
		}
		text := strings.NewReplacer("M", m, "N", n).Replace(pattern)
		if _, code := impl.InferExpr(scope, parsedExpr(t, text)); code != want {
			t.Fatalf("InferExpr(%s, %s) has the code %d", scopeText(scope), text, code)
		}
	}
	for pattern, want := range map[string]int{"{t=*}": impl.MatchType, "{x:*}": impl.MatchValue, "{x:(I>*)}": impl.MatchValue, "{u;t=*;x:(t>u)}": impl.MatchType} {
		if same {
			want = impl.MatchOk
		}
		have, wanted := parsedSig(t, strings.Replace(pattern, "*", m, 1)), parsedSig(t, strings.Replace(pattern, "*", n, 1))
		if code := impl.MatchIn(scope, have, wanted); code != want {
			t.Fatalf("MatchIn(%s, %s, %s) = %d", scopeText(scope), impl.FormatSig(have), impl.FormatSig(wanted), code)
		}
	}
}
