package tests

import (
	"math/rand"
	"slices"
	"strconv"
	"strings"
	"testing"

	"loop.example/modlink/impl"
)

func TestUnitsAndTheirTexts(t *testing.T) {
	tnum, tname := typeDef("t", num), name("", "t")
	for _, test := range []struct {
		text string
		unit impl.Unit
	}{
		{"C:{}={}", impl.Unit{Name: "C"}},
		{"Z:{t}={t=I}", impl.Unit{Name: "Z", Body: defs(tnum), Face: items(abstract("t"))}},
		{"C:{x:I}={}", impl.Unit{Name: "C", Face: items(val("x", num))}},
		{"C:{}={x:=1}", impl.Unit{Name: "C", Body: defs(valDef("x", number(1)))}},
		{"F(P:{}):{}={}", impl.Unit{Name: "F", Params: modules(module("P", nil))}},
		{"F(P:{t;x:t})(Q:{t=P.t}):{t=Q.t}={t=I}", impl.Unit{Name: "F", Params: modules(module("P", items(abstract("t"), val("x", tname))), module("Q", items(alias("t", name("P", "t"))))), Body: defs(tnum), Face: items(alias("t", name("Q", "t")))}},
		{"F(C:{})(B:{})(A:{}):{}={}", impl.Unit{Name: "F", Params: modules(module("C", nil), module("B", nil), module("A", nil))}},
		{"C:{t;s:(t>t)}={t=I;z:=0;s:=[t](#0+z)}", impl.Unit{Name: "C", Body: defs(tnum, valDef("z", number(0)), valDef("s", lambda(tname, sum(variable(0), path("", "z"))))), Face: items(abstract("t"), val("s", fun(tname, tname)))}},
		// Modules that are mentioned need not exist, and may be the unit or a parameter behind it.
		{"C:{x:C.t}={x:=C.y}", impl.Unit{Name: "C", Body: defs(valDef("x", path("C", "y"))), Face: items(val("x", name("C", "t")))}},
		{"F(P:{x:Q.t})(Q:{x:F.t}):{}={}", impl.Unit{Name: "F", Params: modules(module("P", items(val("x", name("Q", "t")))), module("Q", items(val("x", name("F", "t")))))}},
		// The parts need not fit to each other, and a signature need not have normal types.
		{"F(P:" + tooLarge + "):" + tooLarge + "={x:=(1 1)}", impl.Unit{Name: "F", Params: modules(module("P", parsedSig(t, tooLarge))), Body: defs(valDef("x", call(number(1), number(1)))), Face: parsedSig(t, tooLarge)}},
	} {
		checkUnitText(t, test.unit, test.text)
	}
}

// checkUnitText checks that a unit is valid, has this text, and is read back from it.
func checkUnitText(t *testing.T, u impl.Unit, text string) {
	t.Helper()
	if !impl.UnitValid(u) || !isUnitText(text) {
		t.Errorf("%s is not valid", text)
	}
	if got := impl.FormatUnit(u); got != text {
		t.Errorf("FormatUnit = %q, want %q", got, text)
	}
	if got, ok := impl.ParseUnit(text); !ok || !equalUnits(got, u) {
		t.Errorf("ParseUnit(%q) = %v, %v", text, got, ok)
	}
}

// checkNoUnit checks that ParseUnit rejects a text.
func checkNoUnit(t *testing.T, text string) {
	t.Helper()
	if got, ok := impl.ParseUnit(text); ok || !zeroUnit(got) {
		t.Errorf("ParseUnit(%.80q) = %v, %v", text, got, ok)
	}
}

// checkInvalidUnit checks that no function accepts a unit, whatever else it is given.
func checkInvalidUnit(t *testing.T, u impl.Unit) {
	t.Helper()
	if impl.UnitValid(u) || impl.FormatUnit(u) != "" {
		t.Errorf("UnitValid is %v, FormatUnit is %q", impl.UnitValid(u), impl.FormatUnit(u))
	}
	if uses, hidden := impl.UnitUses(u), impl.HiddenVals(u); len(uses) != 0 || len(hidden) != 0 {
		t.Errorf("UnitUses is %v, HiddenVals is %v", uses, hidden)
	}
	for _, scope := range [][]impl.Import{nil, parsedScope(t, counter), modules(module("I", nil)), modules(module("C", nil))} {
		if code := impl.CheckUnit(scope, u); code != impl.UnitInvalid {
			t.Errorf("CheckUnit is %d", code)
		}
		checkSealed(t, scope, u, u.Face, impl.UnitInvalid)
	}
	if !impl.UnitSame(u, u) {
		t.Error("a unit is not the same as itself")
	}
}

func TestNamesOfUnits(t *testing.T) {
	for _, n := range strings.Split("ABCDEFGHJKLMNOPQRSTUVWXYZ", "") {
		checkUnitText(t, impl.Unit{Name: n}, n+":{}={}")
		other := "A"
		if n == other {
			other = "B"
		}
		checkUnitText(t, impl.Unit{Name: other, Params: modules(module(n, nil))}, other+"("+n+":{}):{}={}")
		checkInvalidUnit(t, impl.Unit{Name: n, Params: modules(module(n, nil))})
		checkNoUnit(t, n+"("+n+":{}):{}={}")
		checkInvalidUnit(t, impl.Unit{Name: n, Params: modules(module(other, nil), module(n, nil))})
		checkNoUnit(t, n+"("+other+":{})("+n+":{}):{}={}")
		checkInvalidUnit(t, impl.Unit{Name: other, Params: modules(module(n, nil), module(n, items(abstract("t"))))})
		checkNoUnit(t, other+"("+n+":{})("+n+":{t}):{}={}")
	}
	for _, n := range []string{"", "I", "a", "z", "AA", "A ", " A", "A.", "@", "[", "1", "É", "A\x00", "\xff"} {
		checkInvalidUnit(t, impl.Unit{Name: n})
		checkNoUnit(t, n+":{}={}")
		for before := range 3 {
			params := append(parsedScope(t, "P:{} Q:{t}")[:before], module(n, nil))
			checkInvalidUnit(t, impl.Unit{Name: "C", Params: params})
			checkNoUnit(t, "C"+[]string{"", "(P:{})", "(P:{})(Q:{t})"}[before]+"("+n+":{}):{}={}")
		}
	}
	for _, names := range []string{"PP", "PQP", "PQQ", "PPQ"} {
		u := unitTexts{name: "C", face: "{}", body: "{}"}
		v := impl.Unit{Name: "C"}
		for _, n := range strings.Split(names, "") {
			u.params, v.Params = append(u.params, n+":{}"), append(v.Params, module(n, nil))
		}
		checkInvalidUnit(t, v)
		checkNoUnit(t, u.String())
	}
}

func TestParamsLimit(t *testing.T) {
	for count := 0; count <= 20; count++ {
		u := impl.Unit{Name: "A"}
		text := "A"
		for _, n := range strings.Split("ZYXWVUTSRQPONMLKJHGFEDCB", "")[:count] {
			u.Params, text = append(u.Params, module(n, items(abstract("t")))), text+"("+n+":{t})"
		}
		text += ":{}={}"
		if count <= 3 {
			checkUnitText(t, u, text)
		} else {
			checkInvalidUnit(t, u)
			checkNoUnit(t, text)
		}
	}
	checkInvalidUnit(t, impl.Unit{Name: "A", Params: make([]impl.Import, 1000000)})
}

// TestLimitsInUnits has parts that are within the limits, or one past them.
func TestLimitsInUnits(t *testing.T) {
	for count := 6; count <= 12; count++ {
		var vals, lets []string
		for _, n := range strings.Split("abcdefghijkl", "")[:count] {
			vals, lets = append(vals, n+":I"), append(lets, n+":="+strconv.Itoa(count))
		}
		sig, body := "{"+strings.Join(vals, ";")+"}", "{"+strings.Join(lets, ";")+"}"
		checkParts(t, sig, "{}", count <= 8)
		checkParts(t, "{}", body, count <= 10)
		checkParts(t, sig, body, count <= 8)
	}
	for _, test := range []struct {
		typ  string
		want bool
	}{
		{chainText(8), true}, {chainText(9), false}, {fullText(6, "I"), true}, {"(" + fullText(6, "I") + ">I)", false}, {"(" + fullText(5, "I") + ">" + fullText(5, "A.t") + ")", true}, {"(I>" + fullText(6, "I") + ")", false},
	} {
		checkParts(t, "{t="+test.typ+"}", "{}", test.want)
		checkParts(t, "{x:"+test.typ+"}", "{}", test.want)
		checkParts(t, "{}", "{t="+test.typ+"}", test.want)
		checkParts(t, "{}", "{x:=["+test.typ+"]1}", test.want)
	}
	for count := 398; count <= 402; count++ {
		_, text := sized(count, 2)
		checkParts(t, "{}", "{x:=1;a:="+text+"}", count <= 400)
	}
	for depth := 38; depth <= 42; depth++ {
		checkParts(t, "{}", "{x:="+deepText(depth)+"}", depth <= 40)
	}
	for _, n := range []int{12, 13, 99, 100} {
		checkParts(t, "{}", "{x:="+strings.Repeat("[I]", 14)+"#"+strconv.Itoa(n)+"}", n == 12)
		checkParts(t, "{}", "{x:="+strconv.Itoa(n)+"}", n <= 99)
	}
}

// checkParts checks a signature, in each place of a unit where one may be, and a body.
func checkParts(t *testing.T, sig, body string, want bool) {
	t.Helper()
	for _, u := range []unitTexts{
		{"C", nil, sig, body},
		{"C", []string{"P:" + sig}, "{}", body},
		{"C", []string{"P:{}", "Q:{t}", "R:" + sig}, "{}", body},
		{"C", []string{"P:" + sig, "Q:" + sig, "R:" + sig}, sig, body},
	} {
		if checkReadUnit(t, u.String()) != want {
			t.Errorf("ParseUnit(%.80q) is %v", u, !want)
		}
	}
}

func TestTextsThatAreNoUnit(t *testing.T) {
	for _, text := range []string{
		"", " ", "C", "C:", "C:{}", "C:{}=", "C={}", ":{}={}", "{}={}", "C{}={}", "C:{}{}", "C:={}", "C:{}={}={}", "C:{}:{}={}", "C:{}={}:{}", "C::{}={}", "C:{}=={}", "C:{}:={}", "C=:{}={}", "C:{}={} ", " C:{}={}", "C:{}={}\n", "\nC:{}={}", "C :{}={}", "C: {}={}", "C:{} ={}", "C:{}= {}", "C:{}={}C:{}={}", "C:{}={};", "CC:{}={}", "C.D:{}={}", "c:{}={}", "I:{}={}",
		// Parameters.
		"F():{}={}", "F(P):{}={}", "F(P:):{}={}", "F(:{}):{}={}", "F({}):{}={}", "F(P{}):{}={}", "F(P={}):{}={}", "F(P:{}:{}={}", "FP:{}):{}={}", "F(P:{})):{}={}", "F((P:{})):{}={}", "F(P:{})={}", "F(P:{}):{}", "F(P:{}){}={}", "F(P:{}) :{}={}", "F (P:{}):{}={}", "F( P:{}):{}={}", "F(P: {}):{}={}", "F(P:{} ):{}={}", "F(P :{}):{}={}", "F(P:{},Q:{}):{}={}", "F(P:{};Q:{}):{}={}", "F(P:{} Q:{}):{}={}", "F(P:{}) (Q:{}):{}={}", "F(P:{})Q:{}:{}={}", "(P:{})F:{}={}", "F:(P:{}){}={}", "F:{}(P:{})={}", "F[P:{}]:{}={}", "F<P:{}>:{}={}", "F(p:{}):{}={}", "F(PQ:{}):{}={}", "F(I:{}):{}={}", "F(P.Q:{}):{}={}", "F(F:{}):{}={}", "F(P:{})(P:{}):{}={}", "F(P:{}={}):{}={}",
		"F(P:{})(Q:{})(R:{})(S:{}):{}={}", "F(P:{})(Q:{})(R:{})(:{}={}",
		// A signature and a body are not each other.
		"C:{x:=1}={}", "C:{}={x:I}", "C:{}={t}", "C:{t;t}={}", "C:{x:I;x:I}={}", "C:{x:t}={}", "C:{x:t;t}={}", "C:{}={x:=y}", "C:{}={x:=y;y:=1}", "C:{}={x:=1;x:=1}", "C:{}={t=I;t=I}", "C:{}={x:=#0}", "C:{}={x:=[t]1}", "C:{t}={x:=[t]1}", "C:{t}={u=t}", "C:{x:t}={t=I}", "C:{x:I}={y:=x}", "F(P:{x:t}):{t}={t=I}", "F(P:{t}):{x:t}={}", "F(P:{t}):{}={u=t}", "F(P:{x:I}):{}={y:=x}", "F(P:{x:=1}):{}={}", "F(P:{t;t}):{}={}", "F(P:{}):{t;t}={}",
		"C:{}={x:=01}", "C:{}={x:=100}", "C:{}={x:= 1}", "C:{x: I}={}", "C:{x:I }={}", "C:{I}={}", "C:{A.t}={}", "C:(x:I)={}", "C:{}=(x:=1)", "C:[]={}", "C:{}=[]", "C:{;}={}", "C:{}={;}", "C:{x:I;}={}", "C:{{}}={}", "C:{}={{}}", "C:{}={}}", "C:{}}={}",
		strings.Repeat("C", 1000000), "C" + strings.Repeat("(", 1000000), "C" + strings.Repeat("(P:{})", 1000000), "C" + strings.Repeat(":{}", 1000000), "C:{" + strings.Repeat("t;", 1000000), "C:{}={" + strings.Repeat("x:=1;", 1000000), "C:{x:" + strings.Repeat("(", 1000000), "C:{}={x:=" + strings.Repeat("[I]", 1000000), "F(P:{x:" + strings.Repeat("(I>", 1000000), "C:{}={x:=" + strings.Repeat("1", 1000000),
	} {
		if isUnitText(text) {
			t.Errorf("isUnitText(%.80q) is true", text)
		}
		checkNoUnit(t, text)
	}
}

// checkReadUnit compares ParseUnit with a reading by splitting, and reports whether the text is that of a unit.
func checkReadUnit(t *testing.T, text string) bool {
	t.Helper()
	got, ok := impl.ParseUnit(text)
	if want := isUnitText(text); ok != want || ok && impl.FormatUnit(got) != text || !ok && !zeroUnit(got) {
		t.Errorf("ParseUnit(%.300q) = %v, %v", text, got, ok)
	}
	return ok
}

// TestAllShortUnitTexts compares ParseUnit, for each text of a few tokens, with a reading by splitting.
func TestAllShortUnitTexts(t *testing.T) {
	accepted := 0
	for tokens, most := range map[string]int{"C ( ) : = {}": 6, "C: ( P: {t} ) : ={}": 7, "F (P:{}) (Q:{t}) (F:{}) :{} ={} :{t;t}": 6, "C: {t} = {t=I} {x:=1} { } P:": 5, "F (P: (Q: {t} ): :{} ={x:=P.y}": 7} {
		eachText(strings.Split(tokens, " "), most, func(text string) {
			if checkReadUnit(t, text) {
				accepted++
			}
		})
	}
	if accepted < 25 {
		t.Errorf("only %d texts are accepted", accepted)
	}
}

// TestRandomUnitTexts changes texts of random units, and compares ParseUnit with a reading by splitting.
func TestRandomUnitTexts(t *testing.T) {
	random := rand.New(rand.NewSource(26))
	accepted, rejected := 0, 0
	for range 10000 {
		u := unitTexts{name: "C"}
		for _, n := range strings.Split("PQR", "")[:random.Intn(4)] {
			u.params = append(u.params, n+":"+randomSigText(random))
		}
		u.face = randomSigText(random)
		s, body := randomStruct(random)
		u.body = body
		face, _ := impl.ParseSig(u.face)
		v := impl.Unit{Name: "C", Params: parsedScope(t, strings.Join(u.params, " ")), Body: s, Face: face}
		checkUnitText(t, v, u.String())
		if checkReadUnit(t, changedBytes(random, u.String(), "{};=:(>)[]01#ItuPQC. +?<,")) {
			accepted++
		} else {
			rejected++
		}
	}
	if accepted < 1000 || rejected < 1000 {
		t.Errorf("%d texts are accepted, %d are not", accepted, rejected)
	}
}

// invalidSigs lists signatures that are not valid, some of which contain themselves.
func invalidSigs() [][]impl.SigItem {
	list := [][]impl.SigItem{items(abstract("t"), abstract("t")), items(val("x", num), val("x", num)), items(val("x", name("", "t")), abstract("t")), make([]impl.SigItem, 100000)}
	for _, x := range append(invalidItems(), val("x", loop(1, num)), alias("x", loop(1000, num)), val("x", sharedType(200, num)), impl.SigItem{Kind: impl.SigAbstract, Name: "x", Type: loop(2, num)}) {
		list = append(list, items(x), items(abstract("t"), x))
	}
	return list
}

func TestInvalidUnits(t *testing.T) {
	good := parsedUnit(t, "F(P:{t;x:t})(Q:{t=P.t}):{u;x:P.t}={u=I;x:=P.x}")
	if impl.CheckUnit(nil, good) != impl.UnitOk {
		t.Fatal("the unit itself is not accepted")
	}
	for _, s := range invalidSigs() {
		u, v, w := copyUnit(good), copyUnit(good), copyUnit(good)
		u.Face, v.Params[0].Sig, w.Params[1].Sig = s, s, s
		checkInvalidUnit(t, u)
		checkInvalidUnit(t, v)
		checkInvalidUnit(t, w)
		checkInvalidUnit(t, impl.Unit{Name: "C", Face: s})
		checkSealed(t, nil, good, s, impl.UnitInvalid)
		// Only the signature that SealUnit is given matters.
		checkSealed(t, nil, u, good.Face, impl.UnitOk)
		checkSealed(t, nil, v, good.Face, impl.UnitInvalid)
	}
	first, last := typeDef("t", num), valDef("y", number(1))
	for _, x := range invalidDefs() {
		for _, body := range [][]impl.Item{defs(x), defs(first, x), defs(x, last)} {
			checkInvalidUnit(t, impl.Unit{Name: "C", Body: body})
			checkInvalidUnit(t, impl.Unit{Name: good.Name, Params: good.Params, Body: body, Face: good.Face})
		}
	}
	checkInvalidUnit(t, impl.Unit{})
	checkInvalidUnit(t, impl.Unit{Name: "C", Body: slices.Repeat(defs(first), 100000)})
	checkInvalidUnit(t, impl.Unit{Params: good.Params, Body: good.Body, Face: good.Face})
}

// TestInvalidScopesOfUnits has units that are accepted in a valid scope.
func TestInvalidScopesOfUnits(t *testing.T) {
	var scopes [][]impl.Import
	for _, s := range invalidSigs() {
		scopes = append(scopes, modules(module("A", s)), modules(module("A", nil), module("B", s)))
	}
	for _, text := range []string{"A:{} A:{}", "B:{x:A.t}", "B:{x:A.t} A:{t}", "A:{t} B:{x:A.u}", "A:" + tooLarge, "I:{}", "a:{}", "AB:{}"} {
		scopes = append(scopes, parsedScope(t, text))
	}
	scopes = append(scopes, make([]impl.Import, 1000000), parsedScope(t, "A:{} B:{} C:{} D:{} E:{} F:{} G:{} H:{} J:{}"))
	for _, text := range []string{"Z:{}={}", "Z(P:{t}):{x:I}={x:=1}", "A:{}={}", "Z(A:{}):{}={}", "Z:{}={x:=(1 1)}", "Z:{x:Z.t}={}", "Z:{x:I}={}"} {
		u := parsedUnit(t, text)
		for _, scope := range scopes {
			if code := impl.CheckUnit(scope, u); code != impl.UnitInvalid {
				t.Errorf("CheckUnit(%.80s, %s) = %d", scopeText(scope), text, code)
			}
			checkSealed(t, scope, u, u.Face, impl.UnitInvalid)
			checkSealed(t, scope, u, nil, impl.UnitInvalid)
		}
	}
}

func TestUnitUses(t *testing.T) {
	for text, want := range map[string]string{
		"C:{}={}":                                 "",
		"C:{t;x:t}={t=I;x:=1}":                    "",
		"C:{x:I}={x:=A.x}":                        "A",
		"C:{x:A.t}={}":                            "A",
		"C:{t=(I>A.t)}={}":                        "A",
		"C:{}={t=(A.t>B.u)}":                      "A B",
		"C:{}={x:=[A.t]1}":                        "A",
		"C:{}={x:=[I][(I>(B.u>A.t))]1}":           "A B",
		"C:{}={x:=(Z.x (Y.y+?<X.x,W.w,[I]V.v>))}": "V W X Y Z",
		"C:{z:Z.t}={y=Y.t;x:=[X.t]W.w}":           "W X Y Z",
		"C:{z:A.t;y:A.u}={y=A.t;x:=[A.t]A.w}":     "A",
		// Parameters, and what they mention.
		"F(P:{}):{}={}":      "",
		"F(P:{x:A.t}):{}={}": "A",
		"F(P:{t}):{x:P.t}={x:=P.x;t=P.t;y:=[P.t]1}":           "",
		"F(P:{t=B.t})(Q:{t=P.t;x:A.u}):{y:Q.t}={y:=Q.x}":      "A B",
		"F(P:{x:A.t}):{y:B.u}={y:=P.x}":                       "A B",
		"F(P:{x:Q.t})(Q:{}):{}={}":                            "",
		"F(P:{x:R.t})(Q:{}):{}={x:=Q.x}":                      "R",
		"F(A:{x:B.t})(B:{x:A.t})(C:{x:D.t}):{x:E.t}={x:=A.x}": "D E",
		// The unit itself is no parameter.
		"C:{x:C.t}={}":             "C",
		"F(P:{x:F.t}):{}={x:=P.x}": "F",
		// Names of modules are not sought in other places.
		"F(P:{a;p:a}):{b;c:b}={d=I;e:=[d]#0}": "",
	} {
		u := parsedUnit(t, text)
		parts, _ := splitUnit(text)
		if got := impl.UnitUses(u); strings.Join(got, " ") != want || !slices.Equal(got, usesInText(parts)) {
			t.Errorf("UnitUses(%s) = %v", text, got)
		}
	}
	// Each module in each place, in the order of the alphabet.
	letters := strings.Split("ZYXWVUTSRQPNMLKJHGFEDBA", "")
	for _, around := range []string{"O:{x:(*.t>*.t)}={}", "O:{}={t=(*.t>(I>*.t))}", "O:{}={x:=(*.x *.y);y:=[*.t]1}", "O(C:{x:*.t}):{}={}", "O(C:{x:C.t}):{x:*.t}={y:=C.x}"} {
		for i, n := range letters {
			m := letters[(i*7+3)%len(letters)]
			text := strings.Replace(strings.ReplaceAll(strings.Replace(around, "*", n, 1), "*", m), "C.t", n+".u", 1)
			parts, _ := splitUnit(text)
			if got := impl.UnitUses(parsedUnit(t, text)); !slices.Equal(got, usesInText(parts)) || !slices.IsSorted(got) || !slices.Contains(got, n) {
				t.Errorf("UnitUses(%s) = %v", text, got)
			}
		}
	}
}

func TestHiddenVals(t *testing.T) {
	for text, want := range map[string]string{
		"C:{}={}":                                       "",
		"C:{x:I}={}":                                    "",
		"C:{}={x:=1}":                                   "x",
		"C:{x:I}={x:=1}":                                "",
		"C:{y:I}={x:=1}":                                "x",
		"C:{}={z:=1;a:=2;m:=3}":                         "z a m",
		"C:{a:I}={z:=1;a:=2;m:=3}":                      "z m",
		"C:{m:I;z:I}={z:=1;a:=2;m:=3}":                  "a",
		"C:{m:I;a:I;z:I}={z:=1;a:=2;m:=3}":              "",
		"C:{f:(I>I)}={h:=[I](#0+1);f:=[I](h (h #0))}":   "h",
		"F(P:{x:I;y:I}):{y:I}={x:=P.x;y:=x}":            "x",
		"C:{x:(I>I)}={x:=1}":                            "",
		"C:{t;z:t;g:(t>I)}={t=I;z:=0;s:=[t]1;g:=[t]#0}": "s",
		// A type is no value.
		"C:{x}={x:=1}":                "x",
		"C:{x=I}={x:=1}":              "x",
		"C:{x}={x=I}":                 "",
		"C:{}={x=I}":                  "",
		"C:{x=I;y:x}={x:=1;x=I;y:=2}": "x",
		"C:{x:I}={x=I;x:=1;y=x;y:=x}": "y",
	} {
		u := parsedUnit(t, text)
		parts, _ := splitUnit(text)
		if got := impl.HiddenVals(u); strings.Join(got, " ") != want || !slices.Equal(got, hiddenInText(parts)) {
			t.Errorf("HiddenVals(%s) = %v", text, got)
		}
	}
	u := parsedUnit(t, "C:{}={j:=1;i:=1;h:=1;g:=1;f:=1;e:=1;d:=1;c:=1;b:=1;a:=1}")
	if got := strings.Join(impl.HiddenVals(u), ""); got != "jihgfedcba" {
		t.Errorf("HiddenVals of ten values = %s", got)
	}
}

func TestUnitSame(t *testing.T) {
	list := []impl.Unit{{}, {Name: "C"}, {Name: "D"}, {Name: "anything"}}
	for _, sig := range [][]impl.SigItem{items(abstract("t")), items(alias("t", num)), items(val("t", num)), items(abstract("u")), items(abstract("t"), abstract("u")), items(abstract("u"), abstract("t")), items(impl.SigItem{}), items(val("x", impl.Type{Kids: []impl.Type{{}}}))} {
		list = append(list, impl.Unit{Name: "C", Face: sig}, impl.Unit{Name: "C", Params: modules(module("P", sig))}, impl.Unit{Name: "C", Params: modules(module("P", nil), module("Q", sig))})
	}
	for _, body := range [][]impl.Item{defs(typeDef("t", num)), defs(valDef("t", number(1))), defs(valDef("t", number(2))), defs(valDef("t", lambda(num, number(1)))), defs(typeDef("t", num), valDef("t", number(1))), defs(impl.Item{})} {
		list = append(list, impl.Unit{Name: "C", Body: body})
	}
	for _, params := range [][]impl.Import{modules(module("", nil)), modules(module("P", nil)), modules(module("Q", nil)), modules(module("P", nil), module("Q", nil)), modules(module("Q", nil), module("P", nil)), modules(module("P", nil), module("P", nil)), make([]impl.Import, 5)} {
		list = append(list, impl.Unit{Name: "C", Params: params}, impl.Unit{Params: params})
	}
	for i, a := range list {
		for j, b := range list {
			if same := impl.UnitSame(a, copyUnit(b)); same != (i == j) || same != equalUnits(a, b) {
				t.Errorf("UnitSame(%v, %v) = %v", a, b, same)
			}
		}
	}
	for _, text := range []string{"C:{x:I}={x:=1}", "F(P:{t;x:t})(Q:{t=P.t}):{u;x:P.t}={u=I;x:=[u](P.x #0)}"} {
		checkSmallChanges(t, text)
	}
}

// checkSmallChanges changes each byte of the text of a unit, and compares the units.
func checkSmallChanges(t *testing.T, text string) {
	t.Helper()
	u, changed := parsedUnit(t, text), 0
	for i := range text {
		for _, c := range "abPQtuxyI012" {
			v, ok := impl.ParseUnit(text[:i] + string(c) + text[i+1:])
			if same := text[i] == byte(c); ok && impl.UnitSame(u, v) != same {
				t.Errorf("UnitSame(%s, %s) is %v", text, impl.FormatUnit(v), !same)
			}
			if ok {
				changed++
			}
		}
	}
	if changed < 15 {
		t.Errorf("only %d changes of %s are units", changed, text)
	}
}

func TestUnitSameOfLargeUnits(t *testing.T) {
	large := func(leaf impl.Type, n int) impl.Unit {
		x, e := chain(1000, true, leaf), call(lambda(chain(1000, false, leaf), deep(1000)), number(n))
		sig := slices.Repeat(items(val("x", x)), 20000)
		return impl.Unit{Name: "C", Params: slices.Repeat(modules(module("P", sig)), 20000), Body: slices.Repeat(defs(impl.Item{Kind: 2, Type: x, Expr: e}), 20000), Face: sig}
	}
	a := large(num, 1)
	if !impl.UnitSame(a, large(num, 1)) || impl.UnitSame(a, large(num, 2)) || impl.UnitSame(a, large(name("", "t"), 1)) {
		t.Error("UnitSame is wrong for large units")
	}
	checkInvalidUnit(t, a)
	loops := func(x impl.Type, e impl.Expr) impl.Unit {
		sig := items(alias("t", x), val("x", fun(x, x)))
		return impl.Unit{Name: "C", Params: modules(module("P", sig), module("Q", sig)), Body: defs(typeDef("t", x), valDef("x", e), valDef("y", lambda(x, e))), Face: sig}
	}
	b := loops(loop(3, num), exprLoop(2, number(1)))
	checkInvalidUnit(t, b)
	if !impl.UnitSame(b, loops(loop(4, num), exprLoop(5, number(1)))) || impl.UnitSame(b, loops(loop(3, num), exprLoop(2, number(2)))) || impl.UnitSame(b, loops(loop(3, name("", "t")), exprLoop(2, number(1)))) {
		t.Error("UnitSame is wrong for units that contain themselves")
	}
	for _, u := range []impl.Unit{{Name: "C", Face: b.Face}, {Name: "C", Params: b.Params}, {Name: "C", Body: b.Body}, {Name: "C", Face: items(val("x", sharedType(200, num)))}, {Name: "C", Body: defs(valDef("x", sharedExpr(200, number(1))))}} {
		checkInvalidUnit(t, u)
		if impl.UnitSame(u, impl.Unit{Name: "C"}) || impl.UnitSame(b, u) {
			t.Error("UnitSame is wrong for units with a part that contains itself")
		}
	}
}

func TestEmptySlicesInUnitsAreNone(t *testing.T) {
	a := parsedUnit(t, "F(P:{}):{}={}")
	b := impl.Unit{Name: "F", Params: []impl.Import{{Name: "P", Sig: []impl.SigItem{}}}, Body: []impl.Item{}, Face: []impl.SigItem{}}
	if !impl.UnitValid(b) || impl.FormatUnit(b) != "F(P:{}):{}={}" || !impl.UnitSame(a, b) || impl.CheckUnit([]impl.Import{}, b) != impl.UnitOk {
		t.Error("empty slices are not treated as none")
	}
	if c := (impl.Unit{Name: "C", Params: []impl.Import{}}); !impl.UnitSame(c, impl.Unit{Name: "C"}) || impl.FormatUnit(c) != "C:{}={}" {
		t.Error("an empty list of parameters is not treated as none")
	}
}
