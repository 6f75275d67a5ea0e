package tests

import (
	"math/rand"
	"slices"
	"strings"
	"testing"

	"loop.example/modlink/impl"
)

// tooLarge is a valid signature whose NormalSig returns false.
const tooLarge = "{t=((I>I)>(I>I));u=((t>t)>(t>t));v=((u>u)>(u>u));x:v}"

type matchTest struct {
	have, want string
	code       int
	index      int // of the first item that is not offered, or -1
}

func checkMatches(t *testing.T, tests []matchTest) {
	t.Helper()
	for _, test := range tests {
		if got := checkMatch(t, test.have, test.want); got != test.code {
			t.Errorf("MatchSig(%s, %s) = %d, want %d", test.have, test.want, got, test.code)
		}
		checkFirst(t, parsedSig(t, test.have), parsedSig(t, test.want), test.index)
	}
}

func TestMatchSig(t *testing.T) {
	checkMatches(t, []matchTest{
		{"{}", "{}", impl.MatchOk, -1},
		{"{t;x:t}", "{}", impl.MatchOk, -1},
		{"{t=I;x:t}", "{t;x:t}", impl.MatchOk, -1},
		{"{t;x:t}", "{t=I;x:t}", impl.MatchType, 0},
		{"{t=I;x:I}", "{t;x:t}", impl.MatchOk, -1},
		{"{t=I;x:t}", "{x:I}", impl.MatchOk, -1},
		{"{t=I;x:t}", "{u=I;x:u}", impl.MatchMissing, 0},
		{"{t;x:I}", "{t;x:t}", impl.MatchValue, 1},
		{"{t;x:t}", "{x:I}", impl.MatchValue, 0},
		// Aliases must be equal to types of have.
		{"{t=I}", "{t=I}", impl.MatchOk, -1},
		{"{t=I}", "{t=(I>I)}", impl.MatchType, 0},
		{"{u=I;t=(u>u)}", "{t=(I>I)}", impl.MatchOk, -1},
		{"{u=I;t=(u>u)}", "{u;t=(u>u)}", impl.MatchOk, -1},
		{"{u=I;t=(u>u)}", "{t=(I>I);u;f:I}", impl.MatchMissing, 2},
		{"{t;u=(t>t)}", "{t;u=(t>t)}", impl.MatchOk, -1},
		{"{t;u=(t>t)}", "{u}", impl.MatchOk, -1},
		{"{t;u=(t>t)}", "{t;u=t}", impl.MatchType, 1},
		{"{t=A.t;x:A.t}", "{t;x:t}", impl.MatchOk, -1},
		{"{t=A.t;x:A.t}", "{t=A.t;x:t}", impl.MatchOk, -1},
		{"{t=A.t;x:A.t}", "{t=B.t;x:t}", impl.MatchType, 0},
		{"{t=A.t;x:A.t}", "{t=A.u;x:t}", impl.MatchType, 0},
		{"{f:(I>I)}", "{f:(I>A.t)}", impl.MatchValue, 0},
		{"{f:(I>I)}", "{f:(A.t>I)}", impl.MatchValue, 0},
		{"{t=(I>(I>I))}", "{t=((I>I)>I)}", impl.MatchType, 0},
		// Names of modules are not those of the signature, and are not replaced.
		{"{t=I;x:A.t}", "{t;x:A.t}", impl.MatchOk, -1},
		{"{t=I;x:I}", "{t;x:A.t}", impl.MatchValue, 1},
		{"{t;x:A.t}", "{t;x:t}", impl.MatchValue, 1},
		// A type is no value.
		{"{t}", "{t:I}", impl.MatchMissing, 0},
		{"{t:I}", "{t}", impl.MatchMissing, 0},
		{"{t:I}", "{t=I}", impl.MatchMissing, 0},
		{"{t=I}", "{t:I}", impl.MatchMissing, 0},
		{"{t:I;t=(I>I)}", "{t;t:I}", impl.MatchOk, -1},
		{"{t:I;t=(I>I)}", "{t;t:t}", impl.MatchValue, 1},
		{"{t;u=t;f:(u>t)}", "{f:(I>I)}", impl.MatchValue, 0},
		{"{x:I}", "{t;x:I}", impl.MatchMissing, 0},
		{"{x:I}", "{x:I;t}", impl.MatchMissing, 1},
	})
}

func TestMatchSigOfTypesWithOtherNamesAndOrders(t *testing.T) {
	checkMatches(t, []matchTest{
		// An abstract type stands for one with another name.
		{"{t;u=t;f:(u>t)}", "{u;f:(u>u)}", impl.MatchOk, -1},
		{"{t;u=t;f:(u>t)}", "{u;t;f:(t>u)}", impl.MatchOk, -1},
		{"{t;u=t;f:(u>t)}", "{t;u=t;f:(u>t)}", impl.MatchOk, -1},
		{"{t;u=t;f:(u>t)}", "{u;t=u;f:(u>t)}", impl.MatchOk, -1},
		{"{u;t=u;f:(u>t)}", "{t;u=t;f:(u>t)}", impl.MatchOk, -1},
		{"{t;u;f:(u>t)}", "{u;t;f:(t>u)}", impl.MatchValue, 2},
		{"{t;u;x:t}", "{t;u;x:u}", impl.MatchValue, 2},
		{"{t;u;f:(u>t)}", "{t;u=t}", impl.MatchType, 1},
		{"{v;t=(v>v);u=v;f:(t>u)}", "{t;u;v;f:(t>u)}", impl.MatchOk, -1},
		{"{v;t=(v>v);u=v;f:(t>u)}", "{u;t=(u>u);f:((u>u)>u)}", impl.MatchOk, -1},
		{"{u=I;t=(I>I);x:t}", "{t;u;x:(u>u)}", impl.MatchOk, -1},
		// What a type stands for may have the name of another type of want: all are replaced at once.
		{"{u;t=(u>u);v=t;x:v}", "{u;t;x:t}", impl.MatchOk, -1},
		{"{t;u=(t>t);x:(u>t)}", "{u;t;x:(u>t)}", impl.MatchOk, -1},
		{"{t;u=(t>t);x:(((t>t)>(t>t))>t)}", "{u;t;x:(u>t)}", impl.MatchValue, 2},
		{"{t;v=t;u=(v>t);x:(t>u)}", "{v;u;t;x:(v>u)}", impl.MatchOk, -1},
		// The items come in another order.
		{"{x:I;t=I;y:t}", "{y:I;t;x:t}", impl.MatchOk, -1},
		{"{a:I;b:(I>I);c:A.t}", "{c:A.t;b:(I>I);a:I}", impl.MatchOk, -1},
		{"{a:I;b:(I>I);c:A.t}", "{c:A.t;b:I;a:I}", impl.MatchValue, 1},
		{"{a;b;c;d;e;f;g;h}", "{h;g;f;e;d;c;b;a}", impl.MatchOk, -1},
		{"{a;b;c;d;e;f;g}", "{h;g;f;e;d;c;b;a}", impl.MatchMissing, 0},
		{"{b;c;d;e;f;g;h}", "{h;g;f;e;d;c;b;a}", impl.MatchMissing, 7},
	})
}

// TestFirstItemDecides puts items that are not offered for different reasons behind each other.
func TestFirstItemDecides(t *testing.T) {
	have := "{t=" + fullText(6, "I") + ";u=I;v=I;x:I;y:I;z:u}"
	wrong := []struct {
		part string
		code int
	}{
		{"w", impl.MatchMissing}, {"a=I", impl.MatchMissing}, {"b=(t>t)", impl.MatchMissing}, {"c:I", impl.MatchMissing}, {"d:(t>t)", impl.MatchMissing},
		{"u=(I>I)", impl.MatchType}, {"v=t", impl.MatchType},
		{"x:(I>I)", impl.MatchValue}, {"y:t", impl.MatchValue},
		{"u=(t>I)", impl.MatchLarge}, {"v=(t>t)", impl.MatchLarge}, {"x:(I>t)", impl.MatchLarge}, {"z:(t>(t>t))", impl.MatchLarge},
	}
	for _, first := range wrong {
		for _, second := range wrong {
			for _, right := range []string{"", "z:I;", "v;z:I;"} {
				want := "{t;" + right + first.part + ";" + second.part + "}"
				if !isSigText(want) {
					continue
				}
				if got := checkMatch(t, have, want); got != first.code {
					t.Errorf("MatchSig(%s, %s) = %d, want %d", have, want, got, first.code)
				}
				checkFirst(t, parsedSig(t, have), parsedSig(t, want), 1+strings.Count(right, ";"))
			}
		}
	}
}

// TestMatchLimits has types that are within the limits in want, but not all of them after what their
// names stand for has been put in.
func TestMatchLimits(t *testing.T) {
	u := name("", "u")
	five, eight, quarter := chain(5, false, num), chain(8, true, num), full(4, num)
	less := fun(fun(num, full(2, num)), full(3, num))                     // a quarter with two nodes fewer
	more := fun(fun(fun(fun(num, num), num), full(2, num)), full(3, num)) // a quarter with two nodes more
	tests := []struct {
		stands, want impl.Type
		depth, nodes int // of what want becomes
	}{
		{five, chain(4, true, u), 8, 15},
		{five, chain(5, true, u), 9, 17},
		{five, chain(4, false, u), 8, 15},
		{five, chain(5, false, u), 9, 17},
		{eight, u, 8, 15},
		{eight, fun(num, u), 9, 17},
		{num, chain(8, true, u), 8, 15},
		{quarter, fun(fun(u, u), fun(u, less)), 6, 61},
		{quarter, fun(fun(u, u), fun(u, u)), 6, 63},
		{quarter, fun(fun(u, u), fun(u, more)), 7, 65},
		{quarter, fun(fun(more, u), fun(u, u)), 7, 65},
		{full(2, num), full(5, u), 6, 63},
		{fun(num, full(2, num)), full(5, u), 7, 95},
		{full(6, num), u, 6, 63},
		{full(6, num), fun(u, num), 7, 65},
		{full(6, num), full(6, u), 11, 2047},
	}
	for _, test := range tests {
		becomes := replaceTokens(impl.FormatType(test.want), map[string]string{"u": impl.FormatType(test.stands)})
		if depth, nodes := largestNormal("{x:" + becomes + "}"); depth != test.depth || nodes != test.nodes {
			t.Fatalf("%s has depth %d and %d nodes", becomes, depth, nodes)
		}
		large := test.depth > 8 || test.nodes > 63
		checkMatchLimit(t, test.stands, test.want, becomes, large)
	}
}

func checkMatchLimit(t *testing.T, stands, want impl.Type, becomes string, large bool) {
	t.Helper()
	for sep, code := range map[string]int{"=": impl.MatchType, ":": impl.MatchValue} {
		have := "{u=" + impl.FormatType(stands)
		wanted := "{u;x" + sep + impl.FormatType(want) + "}"
		if large {
			code = impl.MatchLarge
		} else if got := checkMatch(t, have+";x"+sep+becomes+"}", wanted); got != impl.MatchOk {
			t.Errorf("%s is not offered: %d", wanted, got)
		}
		if got := checkMatch(t, have+";x"+sep+"A.t}", wanted); got != code {
			t.Errorf("MatchSig for %s = %d, want %d", wanted, got, code)
		}
		if got := checkMatch(t, have+"}", wanted); got != impl.MatchMissing {
			t.Errorf("MatchSig for %s = %d without x", wanted, got)
		}
	}
}

// TestMatchLargeComesFirst has signatures without normal types, which no item makes good or bad.
func TestMatchLargeComesFirst(t *testing.T) {
	large := parsedSig(t, tooLarge)
	for _, text := range []string{"{}", "{t}", "{t=I}", "{w}", "{x:I}", "{a:I}", "{t=((I>I)>(I>I))}", tooLarge} {
		s := parsedSig(t, text)
		for _, pair := range [][2][]impl.SigItem{{large, s}, {s, large}} {
			checkNoMatch(t, pair[0], pair[1], impl.MatchLarge)
		}
		if _, ok := impl.JoinSigs(large, s); ok {
			t.Errorf("JoinSigs of %s and %s is true", tooLarge, text)
		}
		if _, ok := impl.JoinSigs(s, large); ok {
			t.Errorf("JoinSigs of %s and %s is true", text, tooLarge)
		}
	}
}

// checkNoMatch checks two signatures that do not get as far as to their items.
func checkNoMatch(t *testing.T, have, want []impl.SigItem, code int) {
	t.Helper()
	if got := impl.MatchSig(have, want); got != code {
		t.Errorf("MatchSig(%v, %v) = %d, want %d", have, want, got, code)
	}
	if i, ok := impl.FirstMismatch(have, want); ok || i != 0 {
		t.Errorf("FirstMismatch(%v, %v) = %d, %v", have, want, i, ok)
	}
	if b, ok := impl.MatchBinds(have, want); ok || len(b) != 0 {
		t.Errorf("MatchBinds(%v, %v) = %v, %v", have, want, b, ok)
	}
	if impl.EquivSigs(have, want) || impl.EquivSigs(want, have) {
		t.Errorf("EquivSigs(%v, %v) is true", have, want)
	}
}

func TestMatchOfInvalidSigs(t *testing.T) {
	var bad [][]impl.SigItem
	for _, x := range invalidItems() {
		bad = append(bad, items(x), items(val("y", num), x))
	}
	for _, x := range []impl.Type{loop(1, num), loop(1000, num)} {
		bad = append(bad, items(val("x", x)), items(impl.SigItem{Kind: impl.SigAbstract, Name: "t", Type: x}))
	}
	nine := slices.Repeat(items(val("x", num)), 9)
	bad = append(bad, nine, items(abstract("t"), abstract("t")), items(val("x", name("", "t")), abstract("t")))
	good := [][]impl.SigItem{nil, items(abstract("x")), items(val("x", num), abstract("t")), parsedSig(t, tooLarge), bad[0]}
	for _, s := range bad {
		for _, other := range good {
			checkNoMatch(t, s, other, impl.MatchInvalid)
			checkNoMatch(t, other, s, impl.MatchInvalid)
			for _, pair := range [][2][]impl.SigItem{{s, other}, {other, s}} {
				if j, ok := impl.JoinSigs(pair[0], pair[1]); ok || len(j) != 0 {
					t.Errorf("JoinSigs(%v, %v) = %v, %v", pair[0], pair[1], j, ok)
				}
			}
		}
		for _, n := range []string{"t", "u", "x", "y", "", "A", s[0].Name} {
			checkNoItem(t, s, n, "types and values")
		}
	}
}

// checkNoItem checks that there are no types, no values, or neither of them, with this name.
func checkNoItem(t *testing.T, s []impl.SigItem, n, what string) {
	t.Helper()
	if strings.Contains(what, "types") {
		if got, ok := impl.AbstractType(s, n); ok || len(got) != 0 {
			t.Errorf("AbstractType(%v, %q) = %v, %v", s, n, got, ok)
		}
	}
	if strings.Contains(what, "values") {
		if got, ok := impl.DropVal(s, n); ok || len(got) != 0 {
			t.Errorf("DropVal(%v, %q) = %v, %v", s, n, got, ok)
		}
	}
}

func TestMatchBinds(t *testing.T) {
	for _, test := range []struct{ have, want, binds string }{
		{"{}", "{}", ""},
		{"{t=I;x:t}", "{x:I}", ""},
		{"{t=I;x:t}", "{t}", "t=I"},
		{"{t;x:t}", "{t}", "t=t"},
		{"{t;u=t}", "{u}", "u=t"},
		{"{t=I;u=(t>t);x:u}", "{u;x:u}", "u=(I>I)"},
		{"{t=I;u=(t>t);v;w=(v>u)}", "{w;v;u;t}", "w=(v>(I>I)) v=v u=(I>I) t=I"},
		{"{t=A.t;u=t}", "{t;u}", "t=A.t u=A.t"},
		{"{u;t=(u>u)}", "{t;u=t;x:u}", "t=(u>u)"},
		// Nothing but abstract types counts.
		{"{t=I}", "{t;x:t}", "t=I"},
		{"{t=I;x:t}", "{t;u=t;x:(t>t)}", "t=I"},
		{"{t=I}", "{u=I;x:u;t}", "t=I"},
		{"{t=" + fullText(6, "I") + "}", "{t;x:(t>t)}", "t=" + fullText(6, "I")},
	} {
		got, ok := impl.MatchBinds(parsedSig(t, test.have), parsedSig(t, test.want))
		if !ok || bindsText(got) != test.binds {
			t.Errorf("MatchBinds(%s, %s) = %v, %v", test.have, test.want, got, ok)
		}
	}
	for _, test := range [][2]string{{"{}", "{t}"}, {"{t:I}", "{t}"}, {"{t=I;u:I}", "{t;u}"}, {"{t=I;u:I}", "{u;t}"}, {"{t}", "{x:I;u}"}} {
		got, ok := impl.MatchBinds(parsedSig(t, test[0]), parsedSig(t, test[1]))
		if ok || len(got) != 0 {
			t.Errorf("MatchBinds(%s, %s) = %v, %v", test[0], test[1], got, ok)
		}
	}
}

func TestEquivSigs(t *testing.T) {
	for _, test := range []struct {
		a, b string
		want bool
	}{
		{"{}", "{}", true},
		{"{t;u=t;x:u}", "{t;u=t;x:t}", true},
		{"{t;u=t;x:u}", "{u;t=u;x:t}", true},
		{"{t=I;x:t}", "{x:I;t=I}", true},
		{"{x:I;y:I}", "{y:I;x:I}", true},
		{"{t=A.t;x:t}", "{t=A.t;x:A.t}", true},
		{"{t=I;x:t;y:I}", "{t;x:t;y:I}", false},
		{"{t;x:t}", "{t}", false},
		{"{t;x:t}", "{t;x:I}", false},
		{"{t;u}", "{t;u=t}", false},
		{"{t}", "{u}", false},
		{"{}", "{t}", false},
		{tooLarge, tooLarge, false},
	} {
		a, b := parsedSig(t, test.a), parsedSig(t, test.b)
		if impl.EquivSigs(a, b) != test.want || impl.EquivSigs(b, a) != test.want {
			t.Errorf("EquivSigs of %s and %s is not %v", test.a, test.b, test.want)
		}
	}
}

func TestAbstractType(t *testing.T) {
	for _, test := range []struct{ sig, name, want string }{
		{"{t=I}", "t", "{t}"},
		{"{t}", "t", "{t}"},
		{"{t=I;x:t;y:I}", "t", "{t;x:t;y:I}"},
		{"{t;u=(t>I);f:(u>t)}", "u", "{t;u;f:(u>t)}"},
		{"{t;u=(t>I);f:(u>t)}", "t", "{t;u=(t>I);f:(u>t)}"},
		{"{t:I;t=A.t;u=t}", "t", "{t:I;t;u=t}"},
		{"{a=I;b=I;c=I;d=I;e=I;f=I;g=I;h=(g>a)}", "h", "{a=I;b=I;c=I;d=I;e=I;f=I;g=I;h}"},
		{tooLarge, "v", "{t=((I>I)>(I>I));u=((t>t)>(t>t));v;x:v}"},
	} {
		s := parsedSig(t, test.sig)
		got, ok := impl.AbstractType(s, test.name)
		if !ok || impl.FormatSig(got) != test.want {
			t.Errorf("AbstractType(%s, %s) = %s, %v", test.sig, test.name, impl.FormatSig(got), ok)
		}
	}
}

func TestDropVal(t *testing.T) {
	for _, test := range []struct{ sig, name, want string }{
		{"{x:I}", "x", "{}"},
		{"{t=I;x:t;y:I}", "x", "{t=I;y:I}"},
		{"{t=I;x:t;y:I}", "y", "{t=I;x:t}"},
		{"{t;t:t;u:t}", "t", "{t;u:t}"},
		{"{t:I;t;u:t}", "t", "{t;u:t}"},
		{"{a:I;b:I;c:I;d:I;e:I;f:I;g:I;h:I}", "a", "{b:I;c:I;d:I;e:I;f:I;g:I;h:I}"},
		{tooLarge, "x", "{t=((I>I)>(I>I));u=((t>t)>(t>t));v=((u>u)>(u>u))}"},
	} {
		s := parsedSig(t, test.sig)
		got, ok := impl.DropVal(s, test.name)
		if !ok || impl.FormatSig(got) != test.want {
			t.Errorf("DropVal(%s, %s) = %s, %v", test.sig, test.name, impl.FormatSig(got), ok)
		}
	}
}

func TestNamesThatNoItemHas(t *testing.T) {
	s := parsedSig(t, "{t;u=A.v;x:A.w;y:u}")
	for _, n := range []string{"", "a", "v", "w", "A", "A.v", "I", "tt", "t ", "é", "t\x00", "u=A.v"} {
		checkNoItem(t, s, n, "types and values")
		checkNoItem(t, nil, n, "types and values")
	}
	for _, n := range []string{"x", "y"} {
		checkNoItem(t, s, n, "types")
	}
	for _, n := range []string{"t", "u"} {
		checkNoItem(t, s, n, "values")
	}
}

func TestJoinSigs(t *testing.T) {
	for _, test := range []struct{ a, b, want string }{
		{"{}", "{}", "{}"},
		{"{}", "{t;x:t}", "{t;x:t}"},
		{"{t;x:t}", "{}", "{t;x:t}"},
		{"{t;x:t}", "{t;x:t}", "{t;x:t}"},
		{"{t=I;x:t}", "{t;y:t}", "{t=I;x:t;y:t}"},
		{"{x:I}", "{y:I;t}", "{x:I;y:I;t}"},
		{"{t}", "{t:I}", "{t;t:I}"},
		{"{t:I}", "{t;u:t}", "{t:I;t;u:t}"},
		{"{t=A.t;x:t}", "{t;x:A.t}", "{t=A.t;x:t}"},
		{"{t=A.t;x:t}", "{t;x:t}", "{t=A.t;x:t}"},
		{"{t;u=t;x:u}", "{u;t;y:(u>t)}", "{t;u=t;x:u;y:(u>t)}"},
		{"{y:I;t;u=t}", "{u;x:u;t=u;z:t}", "{y:I;t;u=t;x:u;z:t}"},
		{"{t=I}", "{t;u=t;v=(u>t);x:v}", "{t=I;u=t;v=(u>t);x:v}"},
		{"{t;x:t}", "{t=I;y:t}", ""},
		{"{x:I}", "{x:(I>I)}", ""},
		{"{x:I}", "{y:I;x:(I>I)}", ""},
		{"{t=I}", "{t=A.t}", ""},
		{"{t=I}", "{u;t=u}", ""},
		{"{t;u}", "{t;u=t}", ""},
		{"{t;x:t}", "{t;x:I}", ""},
		{"{t=" + fullText(6, "I") + "}", "{t;x:(I>t)}", ""},
		{"{t=" + chainText(7) + "}", "{t;x:(I>t)}", "{t=" + chainText(7) + ";x:(I>t)}"},
		{"{t=" + chainText(7) + "}", "{t;x:(I>(I>t))}", ""},
	} {
		checkJoin(t, test.a, test.b, test.want)
	}
}

// chainText is the text of a type of this depth.
func chainText(depth int) string { return impl.FormatType(chain(depth, false, num)) }

// checkJoin checks JoinSigs, where the empty text means that there is no result.
func checkJoin(t *testing.T, a, b, want string) {
	t.Helper()
	got, ok := impl.JoinSigs(parsedSig(t, a), parsedSig(t, b))
	if ok != (want != "") || ok && impl.FormatSig(got) != want || !ok && len(got) != 0 {
		t.Fatalf("JoinSigs(%s, %s) = %s, %v, want %s", a, b, impl.FormatSig(got), ok, want)
	}
}

// TestJoinOfEightAndNineItems joins the first items of a list with the last ones.
func TestJoinOfEightAndNineItems(t *testing.T) {
	for _, list := range []string{"a a:a b b:b c c:I d=I d:d e", "a:I b:I c:I d:I e:I f:I g:I h:I i:I", "i h g f=A.t e d c b a"} {
		parts := strings.Fields(list)
		for count := 7; count <= 9; count++ {
			for first := range count + 1 {
				for last := range count + 1 {
					if first > 8 || last > 8 || first+last < count {
						continue
					}
					checkJoinedParts(t, parts[:first], parts[count-last:count], parts[:count])
				}
			}
		}
	}
}

func checkJoinedParts(t *testing.T, a, b, all []string) {
	t.Helper()
	texts := []string{}
	for _, parts := range [][]string{a, b, all} {
		texts = append(texts, "{"+strings.Join(parts, ";")+"}")
	}
	if !isSigText(texts[0]) || !isSigText(texts[1]) {
		return
	}
	if len(all) > 8 {
		texts[2] = ""
	}
	checkJoin(t, texts[0], texts[1], texts[2])
}

// TestMatchingIsAnOrder checks promise 3 for all small signatures, and each match by itself.
func TestMatchingIsAnOrder(t *testing.T) {
	list := strings.Fields("t u t=I t=u u=t t=A.t u=(t>t) x:I x:t x:u x:A.t x:(t>u) y:t")
	texts := smallSigTexts(list, 4)
	var sigs [][]impl.SigItem
	for _, text := range texts {
		sigs = append(sigs, parsedSig(t, text))
	}
	matched := make([][]int, len(sigs)) // the signatures that each one matches
	rows := make([][]bool, len(sigs))
	for i, a := range sigs {
		rows[i] = make([]bool, len(sigs))
		for j, b := range sigs {
			code, _, _, _ := matchTexts(texts[i], texts[j])
			if got := impl.MatchSig(a, b); got != code {
				t.Fatalf("MatchSig(%s, %s) = %d, want %d", texts[i], texts[j], got, code)
			}
			if code == impl.MatchOk {
				matched[i], rows[i][j] = append(matched[i], j), true
			}
		}
		if !rows[i][i] {
			t.Fatalf("%s does not match itself", texts[i])
		}
	}
	triples := 0
	for i := range sigs {
		for _, j := range matched[i] {
			for _, k := range matched[j] {
				if triples++; !rows[i][k] {
					t.Fatalf("%s matches %s, which matches %s", texts[i], texts[j], texts[k])
				}
			}
		}
	}
	if len(sigs) < 300 || triples < 10000 {
		t.Errorf("only %d signatures and %d triples", len(sigs), triples)
	}
}

// TestRandomMatches compares matches with replacements in texts; the signatures match or nearly match.
func TestRandomMatches(t *testing.T) {
	random := rand.New(rand.NewSource(7))
	codes := map[int]int{}
	for range 30000 {
		have := randomSigText(random)
		want := weakerText(random, have)
		if code := checkMatch(t, have, want); code != impl.MatchOk && smallTypes(normalText(have)) && smallTypes(normalText(want)) {
			t.Fatalf("%s does not match %s: %d", have, want, code)
		}
		for range 1 + random.Intn(2) {
			want = changedText(random, want)
		}
		if random.Intn(4) == 0 {
			want = randomSigText(random)
		}
		codes[checkMatch(t, have, want)]++
		if impl.EquivSigs(parsedSig(t, have), parsedSig(t, want)) != equivTexts(have, want) {
			t.Fatalf("EquivSigs of %s and %s is not %v", have, want, equivTexts(have, want))
		}
	}
	checkCodes(t, codes, impl.MatchOk, impl.MatchMissing, impl.MatchType, impl.MatchValue)
}

// checkCodes checks that each of these codes has come often enough for the test to mean something.
func checkCodes(t *testing.T, counts map[int]int, codes ...int) {
	t.Helper()
	for _, code := range codes {
		if counts[code] < 100 {
			t.Errorf("code %d has come %d times", code, counts[code])
		}
	}
}

// TestRandomLargeMatches puts large types in place of the names in large types.
func TestRandomLargeMatches(t *testing.T) {
	random := rand.New(rand.NewSource(10))
	codes := map[int]int{}
	for range 5000 {
		stands, wanted := smallTypeText(random, "", 2+random.Intn(5)), smallTypeText(random, "t", 2+random.Intn(6))
		sep := []string{"=", ":"}[random.Intn(2)]
		found := replaceTokens(wanted, map[string]string{"t": stands})
		if random.Intn(2) > 0 || !smallType(found) {
			found = "A.v"
		}
		codes[checkMatch(t, "{t="+stands+";x"+sep+found+"}", "{t;x"+sep+wanted+"}")]++
	}
	checkCodes(t, codes, impl.MatchOk, impl.MatchType, impl.MatchValue, impl.MatchLarge)
}

func equivTexts(a, b string) bool {
	there, _, _, _ := matchTexts(a, b)
	back, _, _, _ := matchTexts(b, a)
	return there == impl.MatchOk && back == impl.MatchOk
}

// TestRandomOrder checks promise 3 for chains of signatures, each weaker than the one before it.
func TestRandomOrder(t *testing.T) {
	random := rand.New(rand.NewSource(8))
	for range 5000 {
		texts := []string{randomSigText(random)}
		for range 4 {
			texts = append(texts, weakerText(random, texts[len(texts)-1]))
		}
		if slices.ContainsFunc(texts, func(text string) bool { return !smallTypes(normalText(text)) }) {
			continue
		}
		for i, have := range texts {
			for _, want := range texts[i:] {
				if got := checkMatch(t, have, want); got != impl.MatchOk {
					t.Fatalf("MatchSig(%s, %s) = %d", have, want, got)
				}
			}
		}
	}
}

func TestRandomJoins(t *testing.T) {
	random := rand.New(rand.NewSource(9))
	joins, none := 0, 0
	for range 20000 {
		a := randomSigText(random)
		b := []string{weakerText(random, a), randomSigText(random)}[random.Intn(2)]
		if random.Intn(2) > 0 {
			a = weakerText(random, a)
		}
		want := joinedText(a, b)
		for _, text := range []string{a, b} {
			if want == "" {
				break
			}
			if code, _, _, _ := matchTexts(want, text); code != impl.MatchOk {
				want = ""
			}
		}
		checkJoin(t, a, b, want)
		if want != "" {
			joins++
		} else {
			none++
		}
	}
	if joins < 1000 || none < 1000 {
		t.Errorf("%d pairs can be joined, %d can not", joins, none)
	}
}

// joinedText returns the items of a and the other ones of b, or the empty text if that is no signature.
func joinedText(a, b string) string {
	parts := splitSig(a)
	offered := offeredTexts(a)
	for _, part := range splitSig(b) {
		n, sep, _ := splitItem(part)
		if sep == "" {
			sep = "="
		}
		if _, ok := offered[n+sep]; !ok {
			parts = append(parts, part)
		}
	}
	text := "{" + strings.Join(parts, ";") + "}"
	if !isSigText(text) {
		return ""
	}
	return text
}

func TestResultsOfMatchingAreNewMemory(t *testing.T) {
	const haveText, wantText = "{t=((I>I)>I);u=t;x:t;y:(t>u)}", "{u;t;x:(A.t>u)}"
	have, want := parsedSig(t, haveText), parsedSig(t, wantText)
	for i, f := range []func() ([]impl.SigItem, bool){
		func() ([]impl.SigItem, bool) { return impl.AbstractType(have, "u") },
		func() ([]impl.SigItem, bool) { return impl.DropVal(have, "x") },
		func() ([]impl.SigItem, bool) { return impl.JoinSigs(have, parsedSig(t, "{u;z:u}")) },
		func() ([]impl.SigItem, bool) { return impl.JoinSigs(nil, have) },
		func() ([]impl.SigItem, bool) { return impl.JoinSigs(have, have) },
	} {
		first, ok := f()
		second, _ := f()
		kept := copySig(second)
		spoilSig(first)
		if !ok || !equalSigs(second, kept) || impl.FormatSig(have) != haveText {
			t.Errorf("%d: results share memory", i)
		}
		for j := range second {
			spoil(second[j].Type)
			if !equalSigs(second[j+1:], kept[j+1:]) {
				t.Errorf("%d: items of one result share memory", i)
			}
		}
	}
	binds, ok := impl.MatchBinds(have, want)
	if !ok || bindsText(binds) != "u=((I>I)>I) t=((I>I)>I)" {
		t.Fatalf("MatchBinds = %s, %v", bindsText(binds), ok)
	}
	spoil(binds[0].Type)
	if impl.FormatType(binds[1].Type) != "((I>I)>I)" || impl.FormatSig(have) != haveText || impl.FormatSig(want) != wantText {
		t.Error("binds share memory")
	}
}

func TestMatchArgumentsAreNotChanged(t *testing.T) {
	backing := items(abstract("t"), val("x", name("A", "t")), val("y", num), alias("u", fun(num, num)), val("z", num))
	kept := copySig(backing)
	for size := range backing {
		s := backing[:size]
		for _, other := range [][]impl.SigItem{s, backing, items(abstract("w"), val("w", name("", "w")))} {
			impl.MatchSig(s, other)
			impl.MatchSig(other, s)
			impl.MatchBinds(s, other)
			impl.EquivSigs(s, other)
			impl.FirstMismatch(s, other)
			impl.JoinSigs(s, other)
			impl.JoinSigs(other, s)
		}
		for _, n := range []string{"t", "x", "y", "u", "z"} {
			impl.AbstractType(s, n)
			impl.DropVal(s, n)
		}
		if !equalSigs(backing, kept) {
			t.Fatalf("an argument has changed: %v", backing)
		}
	}
}
