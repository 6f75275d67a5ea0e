package tests

import (
	"math/rand"
	"slices"
	"strings"
	"testing"

	"loop.example/modlink/impl"
)

// checkUnitCode checks CheckUnit and SealUnit for texts of a scope and of a unit.
func checkUnitCode(t *testing.T, scope, text string, code int) {
	t.Helper()
	u, ok := splitUnit(text)
	if !ok {
		t.Fatalf("splitUnit rejects %s", text)
	}
	if got := checkUnit(t, scope, u); got != code {
		t.Errorf("CheckUnit(%s, %s) = %d, want %d", scope, text, got, code)
	}
}

func TestAcceptedUnits(t *testing.T) {
	for _, text := range []string{
		"Z:{}={}",
		"Z:{}={x:=1;t=I;y:=[t]x}",
		"Z:{t;z:t;g:(t>I)}={t=I;z:=0;s:=[t](#0+1);g:=[t]#0}",
		"Z:{t=I;x:t}={t=I;x:=5}",
		"Z:{t;x:t}={x:=[I]#0;t=(I>I)}",
		"Z:{x:I;t;u=t;y:u}={t=I;u=I;y:=1;x:=2}",
		// Several abstract types of the signature may stand for the same type.
		"Z:{t;u;f:(t>u);g:(u>t)}={t=I;u=t;f:=[I]#0;g:=f}",
		"Z:{t;u=(t>t);v;x:(u>v)}={t=A.t;u=(A.t>t);v=B.t;x:=[(t>A.t)]B.z}",
		// A body that uses the scope, and a signature that says so or not.
		"Z:{x:A.t;f:(A.t>A.t)}={x:=(A.s A.z);h:=[A.t](A.s #0);f:=[A.t](h (h #0))}",
		"Z:{t;x:t}={t=A.t;x:=A.z}",
		"Z:{t=C.t;x:t}={t=A.t;x:=C.z}",
		"Z:{t=A.t;x:C.t}={t=C.t;x:=A.z}",
		"Z:{f:C.u}={f:=C.f}",
		"Z:{f:(A.t>B.t)}={f:=C.f}",
		"Z:{x:I}={x:=(A.g (A.s A.z))}",
		// Another thing of the same name in another module.
		"Z:{t;z:t;s:(t>t);g:(t>I)}={t=B.t;z:=B.z;s:=B.s;g:=B.g}",
		"Z:{t:I;t}={t=A.t;t:=1}",
		// A hidden value, or a type, that others use.
		"Z:{x:I}={h:=1;i:=(h+h);x:=(i+h)}",
		"Z:{f:(A.t>I)}={t=A.t;u=(t>I);h:=[t](A.g #0);f:=[t](h #0);g:=[u]1}",
		"Z:{x:I}={x:=1;h:=(x+x)}",
		// A signature that mentions a module that the body does not use, by way of what it means.
		"Z:{t=C.t}={t=A.t}",
		"Z:{f:(C.t>C.t)}={f:=A.s}",
		"Z:{t;f:(t>C.t)}={t=C.t;f:=A.s}",
		"Z:{u=(C.t>C.t);f:u}={f:=A.s;u=(A.t>A.t)}",
	} {
		checkUnitCode(t, counter, text, impl.UnitOk)
	}
}

func TestFunctors(t *testing.T) {
	for text, code := range map[string]int{
		"F(P:{}):{}={}": impl.UnitOk,
		"F(P:{t;z:t;s:(t>t);g:(t>I)}):{x:I;y:P.t}={y:=(P.s (P.s P.z));x:=(P.g y)}":       impl.UnitOk,
		"F(P:{t;x:t}):{t;x:t}={t=P.t;x:=P.x}":                                            impl.UnitOk,
		"F(P:{t;x:t}):{t=P.t;x:t}={t=P.t;x:=P.x}":                                        impl.UnitOk,
		"F(P:{t;x:t}):{t;x:P.t}={t=P.t;x:=P.x}":                                          impl.UnitOk,
		"F(P:{t;x:t}):{x:I}={x:=P.x}":                                                    impl.UnitMatch,
		"F(P:{t=I;x:t}):{x:I}={x:=P.x}":                                                  impl.UnitOk,
		"F(P:{t=A.t;f:(t>I)}):{x:I}={x:=(P.f A.z)}":                                      impl.UnitOk,
		"F(P:{f:(C.t>I)}):{x:I}={x:=(P.f A.z)}":                                          impl.UnitOk,
		"F(P:{t;f:(t>I)}):{x:I}={x:=(P.f A.z)}":                                          impl.UnitBody,
		"F(P:{t})(Q:{t}):{f:(P.t>Q.t)}={f:=[P.t]#0}":                                     impl.UnitMatch,
		"F(P:{t})(Q:{t=P.t}):{f:(P.t>Q.t)}={f:=[P.t]#0}":                                 impl.UnitOk,
		"G(P:{t;x:t})(Q:{t=P.t;f:(t>I)}):{u;w:I;k:(I>u)}={w:=(Q.f P.x);u=P.t;k:=[I]P.x}": impl.UnitOk,
		"G(P:{t})(Q:{f:(P.t>P.t)})(R:{x:P.t}):{x:P.t}={x:=(Q.f R.x)}":                    impl.UnitOk,
		// A parameter that mentions another one, which is before or behind it, or has no such type.
		"F(P:{t})(Q:{x:P.t}):{}={}":                  impl.UnitOk,
		"F(P:{t})(Q:{x:P.u}):{}={}":                  impl.UnitParams,
		"F(P:{t:I})(Q:{x:P.t}):{}={}":                impl.UnitParams,
		"F(P:{x:Q.t})(Q:{t}):{}={}":                  impl.UnitParams,
		"F(P:{t;x:P.t}):{}={}":                       impl.UnitParams,
		"F(P:{t})(Q:{t=P.t})(R:{t=Q.t;x:P.t}):{}={}": impl.UnitOk,
		"F(P:{t})(Q:{t=R.t})(R:{t=P.t}):{}={}":       impl.UnitParams,
		"F(P:{x:Q.t})(Q:{x:P.t}):{}={}":              impl.UnitParams,
		"F(P:{x:A.t})(Q:{x:(B.t>C.u)}):{}={}":        impl.UnitOk,
		"F(P:{x:A.u}):{}={}":                         impl.UnitParams,
		"F(P:{x:D.t}):{}={}":                         impl.UnitParams,
		"F(P:{x:F.t}):{}={}":                         impl.UnitParams,
		"F(P:" + tooLarge + "):{}={}":                impl.UnitParams,
		"F(P:{t})(Q:{})(R:" + tooLarge + "):{}={}":   impl.UnitParams,
		// A name that the scope has already.
		"F(A:{}):{}={}":                        impl.UnitParams,
		"F(P:{})(C:{}):{}={}":                  impl.UnitParams,
		"A(P:{}):{}={}":                        impl.UnitParams,
		"A(B:{}):{}={}":                        impl.UnitParams,
		"B(A:{t;z:t;s:(t>t);g:(t>I)}):{}={}":   impl.UnitParams,
		"A:{t;z:t;s:(t>t);g:(t>I)}={t=I;z:=0}": impl.UnitParams,
		// Parameters that only the body, only the signature, or nothing uses.
		"F(P:{t;x:t}):{}={x:=P.x}":  impl.UnitOk,
		"F(P:{t=I}):{x:P.t}={x:=1}": impl.UnitOk,
		"F(P:{t}):{x:I}={x:=1}":     impl.UnitOk,
		"F(P:{t}):{x:P.t}={x:=1}":   impl.UnitMatch,
		// The functor itself, and what the parameters do not offer, cannot be used.
		"F(P:{}):{}={x:=F.x}":       impl.UnitBody,
		"F(P:{}):{x:F.t}={x:=1}":    impl.UnitFace,
		"F(P:{}):{}={x:=P.x}":       impl.UnitBody,
		"F(P:{x}):{}={x:=P.x}":      impl.UnitBody,
		"F(P:{x:I}):{}={t=P.x}":     impl.UnitBody,
		"F(P:{t}):{x:P.u}={x:=1}":   impl.UnitFace,
		"F(P:{t:I}):{x:P.t}={x:=1}": impl.UnitFace,
		"F(P:{t}):{}={x:=[Q.t]1}":   impl.UnitBody,
	} {
		checkUnitCode(t, counter, text, code)
	}
}

// TestUnitsThatAreNotAccepted has bodies and signatures that do not check, each for one reason.
func TestUnitsThatAreNotAccepted(t *testing.T) {
	for text, code := range map[string]int{
		"Z:{x:I}={x:=(1 2)}":                                 impl.UnitBody,
		"Z:{}={x:=(A.s B.z)}":                                impl.UnitBody,
		"Z:{}={x:=(A.z+1)}":                                  impl.UnitBody,
		"Z:{}={x:=A.x}":                                      impl.UnitBody,
		"Z:{}={x:=D.x}":                                      impl.UnitBody,
		"Z:{}={x:=Z.x}":                                      impl.UnitBody,
		"Z:{}={t=Z.t}":                                       impl.UnitBody,
		"Z:{}={t=A.u}":                                       impl.UnitBody,
		"Z:{}={x:=[A.z]1}":                                   impl.UnitBody,
		"Z:{x:I}={x:=1;h:=(x x)}":                            impl.UnitBody,
		"Z:{t;z:t}={t=I;z:=0;h:=(A.s z)}":                    impl.UnitBody,
		"Z:{}={t=" + chainText(8) + ";u=(t>I)}":              impl.UnitBody,
		"Z:{}={x:=[" + chainText(8) + "]1}":                  impl.UnitBody,
		"Z:{}={t=I;x:=[t]" + fullFun(6) + "}":                impl.UnitBody,
		"Z:{x:D.t}={x:=1}":                                   impl.UnitFace,
		"Z:{x:A.u}={x:=1}":                                   impl.UnitFace,
		"Z:{x:A.z}={x:=A.z}":                                 impl.UnitFace,
		"Z:{x:Z.t}={x:=1}":                                   impl.UnitFace,
		"Z:{t;x:Z.t}={t=I;x:=1}":                             impl.UnitFace,
		"Z:{t=(I>(A.t>D.t))}={t=I}":                          impl.UnitFace,
		"Z:" + tooLarge + "={t=((I>I)>(I>I))}":               impl.UnitFace,
		"Z:{t}={}":                                           impl.UnitMatch,
		"Z:{t}={t:=1}":                                       impl.UnitMatch,
		"Z:{x:I}={}":                                         impl.UnitMatch,
		"Z:{x:I}={x=I}":                                      impl.UnitMatch,
		"Z:{x:I}={y:=1}":                                     impl.UnitMatch,
		"Z:{x:B.t}={x:=A.z}":                                 impl.UnitMatch,
		"Z:{x:I}={x:=A.z}":                                   impl.UnitMatch,
		"Z:{x:A.t}={x:=0}":                                   impl.UnitMatch,
		"Z:{t=(I>I);x:I}={t=I;x:=5}":                         impl.UnitMatch,
		"Z:{t=B.t}={t=C.t}":                                  impl.UnitMatch,
		"Z:{t;f:(t>I)}={t=I;f:=[t]A.z}":                      impl.UnitMatch,
		"Z:{t;u;f:(t>u)}={t=I;u=A.t;f:=[I]#0}":               impl.UnitMatch,
		"Z:{t=A.t;x:t}={t=C.t;x:=B.z}":                       impl.UnitMatch,
		"Z:{t;x:((t>t)>(t>t))}={t=" + quarter + ";x:=1}":     impl.UnitMatch,
		"Z:{t;x:((t>t)>(t>(t>t)))}={t=" + quarter + ";x:=1}": impl.UnitMatch,
	} {
		checkUnitCode(t, counter, text, code)
	}
	// A type of a module in the signature that is too large when it is resolved.
	scope := "A:{t=" + fullText(6, "I") + "} B:{u=(A.t>A.t)}"
	checkUnitCode(t, scope, "Z:{x:A.t}={x:=1}", impl.UnitMatch)
	checkUnitCode(t, scope, "Z:{x:B.u}={x:=1}", impl.UnitMatch)
	checkUnitCode(t, scope, "Z:{x:(A.t>I)}={x:=1}", impl.UnitMatch)
	checkUnitCode(t, scope, "Z:{x:B.t}={x:=1}", impl.UnitFace)
	checkUnitCode(t, scope, "Z:{x:A.t}={x:=[A.t]1}", impl.UnitBody)
	checkUnitCode(t, scope, "Z:{t=A.t}={t=A.t}", impl.UnitOk)
	checkUnitCode(t, scope, "Z:{t}={t=A.t}", impl.UnitOk)
	checkUnitCode(t, scope, "Z:{t}={t=B.u}", impl.UnitBody)
}

// fullFun is an expression whose type would have more levels than a type may have.
func fullFun(functions int) string { return strings.Repeat("[I]", functions+1) + "#0" }

// unitFlaws lists, for each part of a unit and for the scope, what it may become, and the code for that.
func unitFlaws(t *testing.T) [5]map[string]flaw {
	flaws := [5]map[string]flaw{}
	for i := range flaws {
		flaws[i] = map[string]flaw{"": {impl.UnitOk, func(*impl.Unit, *[]impl.Import) {}}}
	}
	for text, code := range map[string]int{"I": impl.UnitInvalid, "z": impl.UnitInvalid, "A": impl.UnitParams, "B": impl.UnitParams} {
		flaws[0][text] = flaw{code, func(u *impl.Unit, _ *[]impl.Import) { u.Name = text }}
	}
	for text, code := range map[string]int{"P:{} P:{}": impl.UnitInvalid, "P:{} i:{}": impl.UnitInvalid, "P:{} Q:{} R:{} S:{}": impl.UnitInvalid, "J:{}": impl.UnitParams, "P:{x:Q.t} Q:{t}": impl.UnitParams, "P:{t} J:{}": impl.UnitParams, "P:{x:Z.t}": impl.UnitParams, "P:{x:A.u}": impl.UnitParams, "P:" + tooLarge: impl.UnitParams} {
		flaws[1][text] = flaw{code, func(u *impl.Unit, _ *[]impl.Import) { u.Params = parsedScope(t, text) }}
	}
	for text, code := range map[string]int{"{t=I;z:=(1 1)}": impl.UnitBody, "{t=I;z:=0;y:=D.x}": impl.UnitBody, "{t=Z.t;z:=0}": impl.UnitBody, "{t=I;a:=1;b:=1;c:=1;d:=1;e:=1;f:=1;g:=1;z:=0}": impl.UnitBody, "{t=I;z:=0;x:=[" + chainText(8) + "]1}": impl.UnitBody} {
		flaws[2][text] = flaw{code, func(u *impl.Unit, _ *[]impl.Import) { u.Body = parsedStruct(t, text) }}
	}
	flaws[2]["twice"] = flaw{impl.UnitInvalid, func(u *impl.Unit, _ *[]impl.Import) { u.Body = append(u.Body, u.Body...) }}
	for text, code := range map[string]int{"{t;z:t;y:D.t}": impl.UnitFace, "{y:A.u;t;z:t}": impl.UnitFace, "{t;z:Z.t}": impl.UnitFace, tooLarge: impl.UnitFace, "{x:I;y:A.u}": impl.UnitFace, "{t;z:t;y:I}": impl.UnitMatch, "{y;t;z:t}": impl.UnitMatch, "{t=A.t;z:t}": impl.UnitMatch, "{t;z:A.t}": impl.UnitMatch} {
		flaws[3][text] = flaw{code, func(u *impl.Unit, _ *[]impl.Import) { u.Face = parsedSig(t, text) }}
	}
	flaws[3]["twice"] = flaw{impl.UnitInvalid, func(u *impl.Unit, _ *[]impl.Import) { u.Face = append(u.Face, u.Face...) }}
	for text, code := range map[string]int{"A:{t;z:t} B:{t=A.u}": impl.UnitInvalid, "A:{t;z:t} B:{} A:{}": impl.UnitInvalid, "A:{t;z:t} B:{} J:{} K:{} L:{} M:{} N:{} O:{}": impl.UnitParams} {
		flaws[4][text] = flaw{code, func(_ *impl.Unit, scope *[]impl.Import) { *scope = parsedScope(t, text) }}
	}
	return flaws
}

type flaw struct {
	code   int
	change func(u *impl.Unit, scope *[]impl.Import)
}

// TestWhichCodeComesFirst has units with any combination of flaws, of which the one with the least code decides.
func TestWhichCodeComesFirst(t *testing.T) {
	flaws := unitFlaws(t)
	seen := map[int]int{}
	var visit func(u impl.Unit, scope []impl.Import, part, code int)
	visit = func(u impl.Unit, scope []impl.Import, part, code int) {
		if part < len(flaws) {
			for _, f := range flaws[part] {
				v, s, next := u, scope, code
				f.change(&v, &s)
				if f.code != impl.UnitOk && (code == impl.UnitOk || f.code < code) {
					next = f.code
				}
				visit(v, s, part+1, next)
			}
			return
		}
		seen[code]++
		if got := impl.CheckUnit(scope, u); got != code {
			t.Errorf("CheckUnit(%s, %.300v) = %d, want %d", scopeText(scope), u, got, code)
		}
	}
	visit(parsedUnit(t, "Z(P:{t;x:t}):{t;z:t}={t=I;z:=0}"), parsedScope(t, "A:{t;z:t} B:{t=A.t} J:{}"), 0, impl.UnitOk)
	checkCodes(t, seen, impl.UnitInvalid, impl.UnitParams)
	for _, code := range []int{impl.UnitOk, impl.UnitBody, impl.UnitFace, impl.UnitMatch} {
		if seen[code] == 0 {
			t.Errorf("no unit has the code %d", code)
		}
	}
}

// TestModulesAndParamsLimit has scopes that are within the limits with the parameters, or one past them.
func TestModulesAndParamsLimit(t *testing.T) {
	for count := 0; count <= 9; count++ {
		var scope []string
		for _, n := range strings.Split("ABCDEFGHJ", "")[:count] {
			scope = append(scope, n+":{t;x:t}")
		}
		for params := 0; params <= 3; params++ {
			u := unitTexts{name: "Z", face: "{y:I}", body: "{y:=1}"}
			for _, n := range strings.Split("PQR", "")[:params] {
				u.params = append(u.params, n+":{t}")
			}
			if params > 0 && count > 0 {
				u.face, u.body = "{y:A.t}", "{y:=A.x;z:=[P.t]y}"
			}
			code := impl.UnitOk
			switch {
			case count > 8:
				code = impl.UnitInvalid
			case count+params > 8:
				code = impl.UnitParams
			}
			checkUnitCode(t, strings.Join(scope, " "), u.String(), code)
		}
	}
}

// TestItemsAndDefsLimit has bodies that are valid, but whose principal signature may have too many items.
func TestItemsAndDefsLimit(t *testing.T) {
	for count := 1; count <= 10; count++ {
		var vals, mixed, face []string
		for i, n := range strings.Split("abcdefghij", "")[:count] {
			vals, face = append(vals, n+":=1"), append(face, n+":I")
			if i%2 == 0 {
				mixed = append(mixed, n+"=I")
			} else {
				mixed = append(mixed, n+":=[a]1")
			}
		}
		code := impl.UnitOk
		if count > 8 {
			code = impl.UnitBody
		}
		for _, u := range []unitTexts{
			{"Z", nil, "{}", "{" + strings.Join(vals, ";") + "}"},
			{"Z", nil, "{" + strings.Join(face[:min(count, 8)], ";") + "}", "{" + strings.Join(vals, ";") + "}"},
			{"Z", []string{"P:{}"}, "{a}", "{" + strings.Join(mixed, ";") + "}"},
		} {
			checkUnitCode(t, "", u.String(), code)
		}
	}
}

// TestTypeLimitsInUnits has types that are within the limits, but not all of them when aliases are replaced.
func TestTypeLimitsInUnits(t *testing.T) {
	for _, test := range []struct {
		sig  string
		want bool
	}{
		{"{t=" + quarter + ";u=((t>t)>(t>t))}", true},
		{"{t=" + quarter + ";u=((t>t)>(t>(t>I)))}", false},
		{"{t=" + quarter + ";u=((t>t)>(t>t));x:u}", true},
		{"{t=" + quarter + ";u=((t>t)>(t>t));x:(u>I)}", false},
		{"{t=" + chainText(5) + ";u=(I>(I>(I>t)))}", true},
		{"{t=" + chainText(5) + ";u=(I>(I>(I>(I>t))))}", false},
	} {
		params, face := impl.UnitOk, impl.UnitMatch
		if !test.want {
			params, face = impl.UnitParams, impl.UnitFace
		}
		checkUnitCode(t, "", "Z(P:"+test.sig+"):{}={}", params)
		checkUnitCode(t, "", "Z:"+test.sig+"={}", face)
		body := strings.Replace(test.sig, "x:(u>I)", "x:=[u]1", 1)
		body = strings.Replace(body, "x:u", "x:=1", 1)
		if code := impl.CheckUnit(nil, parsedUnit(t, "Z:{}="+body)); (code == impl.UnitOk) != test.want || !test.want && code != impl.UnitBody {
			t.Errorf("CheckUnit of %s = %d", body, code)
		}
	}
}

func TestSealUnit(t *testing.T) {
	const text = "D:{x:A.t;f:(A.t>A.t)}={x:=(A.s A.z);h:=[A.t](A.s #0);t=I;f:=[A.t](h (h #0))}"
	scope, u := parsedScope(t, counter), parsedUnit(t, strings.Replace(text, "D", "Z", 1))
	for face, code := range map[string]int{
		"{}":                  impl.UnitOk,
		"{x:A.t;f:(A.t>A.t)}": impl.UnitOk,
		"{f:(A.t>A.t);x:A.t}": impl.UnitOk,
		"{x:C.t;h:(C.t>A.t)}": impl.UnitOk,
		"{t;h:(A.t>A.t)}":     impl.UnitOk,
		"{t=I}":               impl.UnitOk,
		"{x:I}":               impl.UnitMatch,
		"{y:I}":               impl.UnitMatch,
		"{x}":                 impl.UnitMatch,
		"{t=A.t}":             impl.UnitMatch,
		"{t;x:t}":             impl.UnitMatch,
		"{x:D.t}":             impl.UnitFace,
		"{x:Z.t}":             impl.UnitFace,
		tooLarge:              impl.UnitFace,
	} {
		checkSealed(t, scope, u, parsedSig(t, face), code)
		// The signature that the unit has does not matter.
		for _, old := range [][]impl.SigItem{nil, items(val("x", num)), items(val("x", name("D", "t"))), items(val("x", num), val("x", num))} {
			v := copyUnit(u)
			v.Face = old
			checkSealed(t, scope, v, parsedSig(t, face), code)
		}
	}
	checkSealed(t, nil, u, nil, impl.UnitBody)
	checkSealed(t, scope, parsedUnit(t, "A:{}={}"), nil, impl.UnitParams)
	checkSealed(t, scope, parsedUnit(t, "F(P:{t}):{}={}"), items(val("x", name("P", "t"))), impl.UnitMatch)
	checkSealed(t, scope, parsedUnit(t, "F(P:{t;x:t}):{}={x:=P.x}"), items(val("x", name("P", "t"))), impl.UnitOk)
}

// TestRandomUnits compares all functions with replacements in texts, for units that mostly check and then
// for changed ones.
func TestRandomUnits(t *testing.T) {
	random := rand.New(rand.NewSource(27))
	codes, functors := map[int]int{}, map[int]int{}
	for range 6000 {
		scope, u := randomUnit(random, 2+random.Intn(3))
		codes[checkUnit(t, scope, u)]++
		for range 3 {
			s, v := changedUnit(random, scope, u)
			if !isScopeText(s) || !isUnitText(v.String()) {
				continue
			}
			code := checkUnit(t, s, v)
			if codes[code]++; len(v.params) > 0 {
				functors[code]++
			}
		}
	}
	checkCodes(t, codes, impl.UnitOk, impl.UnitParams, impl.UnitBody, impl.UnitFace, impl.UnitMatch)
	checkCodes(t, functors, impl.UnitOk, impl.UnitParams, impl.UnitBody, impl.UnitFace, impl.UnitMatch)
}

// usedModules returns the modules of a scope that a unit uses, and those that these mention, and so on.
func usedModules(scope []impl.Import, u impl.Unit) []impl.Import {
	used := map[string]bool{}
	for _, n := range impl.UnitUses(u) {
		used[n] = true
	}
	for _, m := range slices.Backward(scope) {
		if used[m.Name] {
			for _, n := range impl.SigModules(m.Sig) {
				used[n] = true
			}
		}
	}
	return slices.DeleteFunc(copyScope(scope), func(m impl.Import) bool { return !used[m.Name] })
}

// TestUnitsNeedOnlyWhatTheyUse checks promise 7: a unit is checked in the same way without the modules
// that it does not use, with others, and with the normal signatures of all modules.
func TestUnitsNeedOnlyWhatTheyUse(t *testing.T) {
	random := rand.New(rand.NewSource(28))
	codes, fewer := map[int]int{}, 0
	for range 5000 {
		text, texts := randomUnit(random, 2+random.Intn(3))
		if random.Intn(2) > 0 {
			texts.face = changedText(random, texts.face)
		}
		if random.Intn(4) == 0 {
			texts.body = changedBodyText(random, texts.longer(text), texts.body)
		}
		scope, u := parsedScope(t, text), parsedUnit(t, texts.String())
		code := impl.CheckUnit(scope, u)
		codes[code]++
		used := usedModules(scope, u)
		if len(used) < len(scope) {
			fewer++
		}
		more := append(copyScope(scope), module("Y", parsedSig(t, "{t;x:t}")))
		normal := copyScope(scope)
		for i, m := range normal {
			normal[i].Sig, _ = impl.NormalSig(m.Sig)
		}
		for _, other := range [][]impl.Import{used, more, normal} {
			if got := impl.CheckUnit(other, u); got != code {
				t.Fatalf("CheckUnit(%s, %s) = %d, but %d in %s", text, texts, code, got, scopeText(other))
			}
		}
		// A functor is checked like a module that can use what the parameters offer.
		if got := impl.CheckUnit(parsedScope(t, texts.longer(text)), impl.Unit{Name: u.Name, Body: u.Body, Face: u.Face}); got != code {
			t.Fatalf("CheckUnit(%s, %s) = %d, but %d without parameters", text, texts, code, got)
		}
	}
	if fewer < 1000 {
		t.Errorf("only %d units do not use all modules", fewer)
	}
	checkCodes(t, codes, impl.UnitOk, impl.UnitBody, impl.UnitFace, impl.UnitMatch)
}

// TestUnitsWithModulesThatOfferMore checks promise 7: a unit that checks with the signatures of modules
// checks with any modules that match these signatures, too, unless a type becomes too large.
func TestUnitsWithModulesThatOfferMore(t *testing.T) {
	random := rand.New(rand.NewSource(29))
	accepted, different := 0, 0
	for range 12000 {
		strong := randomScopeText(random, 2)
		parts := strings.Fields(strong)
		for i, part := range parts {
			parts[i] = part[:2] + weakerText(random, part[2:])
		}
		weak := strings.Join(parts, " ")
		if !isScopeText(weak) {
			continue
		}
		c := newTextChecker(weak)
		u := unitTexts{"Z", nil, "{}", randomTypedStruct(random, c)}
		body, _ := impl.ParseStruct(u.body)
		if principal, code := c.principal(body); code == impl.CheckOk {
			u.face = randomFace(random, c, principal)
		}
		if checkUnit(t, weak, u) != impl.UnitOk {
			continue
		}
		accepted++
		if code := checkUnit(t, strong, u); code != impl.UnitOk && !largeUnit(t, strong, u) {
			t.Fatalf("CheckUnit(%s, %s) = %d, but it is accepted in %s", strong, u, code, weak)
		}
		if weak != strong {
			different++
		}
	}
	if accepted < 3000 || different < 1000 {
		t.Errorf("%d units are accepted, %d with other scopes", accepted, different)
	}
}

// largeUnit reports whether a unit has a type that is too large when it is resolved.
func largeUnit(t *testing.T, scope string, u unitTexts) bool {
	t.Helper()
	list, v := parsedScope(t, scope), parsedUnit(t, u.String())
	principal, code := impl.InferStruct(list, v.Body)
	return code == impl.CheckLarge || code == impl.CheckOk && impl.MatchIn(list, principal, v.Face) == impl.MatchLarge
}

// TestSealedAgain seals units that check by their principal signatures, and by what these match.
func TestSealedAgain(t *testing.T) {
	random := rand.New(rand.NewSource(30))
	sealed := 0
	for range 4000 {
		text, texts := randomUnit(random, 2)
		u := parsedUnit(t, texts.String())
		longer := parsedScope(t, texts.longer(text))
		principal, code := impl.InferStruct(longer, u.Body)
		if code != impl.CheckOk {
			continue
		}
		scope := parsedScope(t, text)
		checkSealed(t, scope, u, principal, impl.UnitOk)
		open, _ := impl.SealUnit(scope, u, principal)
		if hidden := impl.HiddenVals(open); len(hidden) != 0 {
			t.Fatalf("%s hides %v", impl.FormatUnit(open), hidden)
		}
		weaker := parsedSig(t, weakerText(random, impl.FormatSig(principal)))
		checkSealed(t, scope, u, weaker, impl.UnitOk)
		checkSealed(t, scope, open, weaker, impl.UnitOk)
		sealed++
	}
	if sealed < 2000 {
		t.Errorf("only %d units have been sealed", sealed)
	}
}

func TestResultsOfUnitsAreNewMemory(t *testing.T) {
	const text = "F(P:{t;u=((t>t)>t);x:u})(Q:{t=P.t;u=((t>t)>t)}):{u=((I>I)>I);v=((I>I)>I);x:(u>u)}={u=((I>I)>I);v=u;x:=[((I>I)>I)]#0;y:=[((I>I)>I)]?<1,2,3>}"
	first, second := parsedUnit(t, text), parsedUnit(t, text)
	kept := copyUnit(second)
	spoilUnit(first)
	if !equalUnits(second, kept) {
		t.Error("results of ParseUnit share memory")
	}
	face := copySig(kept.Face)
	sealed, code := impl.SealUnit(nil, second, face)
	again, _ := impl.SealUnit(nil, second, face)
	spoilUnit(sealed)
	if code != impl.UnitOk || !equalUnits(second, kept) || !equalSigs(face, kept.Face) || !equalUnits(again, kept) {
		t.Errorf("results of SealUnit share memory: %d", code)
	}
	for _, spoilPart := range []func(impl.Unit){
		func(u impl.Unit) { spoilSig(u.Params[0].Sig); u.Params[0] = impl.Import{} },
		func(u impl.Unit) { spoilSig(u.Params[1].Sig) },
		func(u impl.Unit) { spoilStruct(u.Body[:1:1]) },
		func(u impl.Unit) { spoilStruct(u.Body[1:]) },
		func(u impl.Unit) { spoilSig(u.Face[:1:1]) },
		func(u impl.Unit) { spoilSig(u.Face[1:]) },
	} {
		for _, u := range []impl.Unit{parsedUnit(t, text), again} {
			want := copyUnit(u)
			spoilPart(u)
			spoilPart(want)
			if !equalUnits(u, want) {
				t.Error("parts of one result share memory")
			}
		}
		again, _ = impl.SealUnit(nil, second, face)
	}
	uses := parsedUnit(t, "C:{x:A.t}={x:=B.x;y:=1}")
	for _, f := range []func(impl.Unit) []string{impl.UnitUses, impl.HiddenVals} {
		got, other := f(uses), f(uses)
		got[0] = "spoiled"
		if got = got[:cap(got)]; other[0] == "spoiled" || f(uses)[0] == "spoiled" {
			t.Error("lists of names share memory")
		}
	}
}

func TestUnitArgumentsAreNotChanged(t *testing.T) {
	scope := append(parsedScope(t, counter), module("A", nil), module("D", items(val("x", name("C", "u")))))
	params := append(parsedScope(t, "P:{t;x:(t>A.t)} Q:{t=P.t;u=t;x:u}"), module("Q", nil), module("R", items(val("x", num))))
	face := items(abstract("t"), val("x", name("A", "t")), alias("u", name("C", "t")), val("y", name("", "u")), val("x", num))
	body := defs(typeDef("t", name("C", "u")), valDef("x", path("A", "z")), valDef("y", lambda(name("", "t"), path("", "x"))), typeDef("u", name("A", "t")), valDef("z", variable(0)))
	kept := copyUnit(impl.Unit{Params: params, Body: body, Face: face})
	keptScope := copyScope(scope)
	for size := range len(scope) + 1 {
		for i := range len(params) + 1 {
			for j := range len(body) + 1 {
				u := impl.Unit{Name: "Z", Params: params[:i], Body: body[:j], Face: face[:len(face)-j]}
				impl.UnitValid(u)
				impl.UnitSame(u, impl.Unit{Name: "Z", Params: params, Body: body, Face: face})
				impl.FormatUnit(u)
				impl.CheckUnit(scope[:size], u)
				impl.UnitUses(u)
				impl.HiddenVals(u)
				for k := range len(face) + 1 {
					impl.SealUnit(scope[:size], u, face[:k])
				}
				if u.Name != "Z" || len(u.Face) != len(face)-j {
					t.Fatalf("the unit has changed: %v", u)
				}
			}
		}
	}
	if !equalScopes(scope, keptScope) || !equalUnits(impl.Unit{Params: params, Body: body, Face: face}, kept) {
		t.Fatalf("an argument has changed: %v, %v, %v, %v", scope, params, body, face)
	}
}

// TestSharedUnits has one signature in the scope, in parameters and in place of the unit's own.
func TestSharedUnits(t *testing.T) {
	sig := parsedSig(t, "{t;u=((t>t)>t);x:u}")
	scope := modules(module("A", sig), module("B", sig))
	body := parsedStruct(t, "{t=I;u=((t>t)>t);x:=[(t>t)](#0 1)}")
	u := impl.Unit{Name: "F", Params: modules(module("P", sig), module("Q", sig), module("R", sig[:1])), Body: body, Face: sig}
	const text = "F(P:{t;u=((t>t)>t);x:u})(Q:{t;u=((t>t)>t);x:u})(R:{t}):{t;u=((t>t)>t);x:u}={t=I;u=((t>t)>t);x:=[(t>t)](#0 1)}"
	if code := impl.CheckUnit(scope, u); code != impl.UnitOk || impl.FormatUnit(u) != text {
		t.Errorf("CheckUnit(%s) = %d", impl.FormatUnit(u), code)
	}
	checkSealed(t, scope, u, sig, impl.UnitOk)
	checkSealed(t, scope, u, sig[:1], impl.UnitOk)
	part := lambda(full(3, name("A", "t")), path("A", "x"))
	u = impl.Unit{Name: "C", Body: defs(valDef("x", part), valDef("y", part)), Face: items(val("x", fun(full(3, name("A", "t")), name("A", "u"))))}
	checkSealed(t, scope, u, u.Face, impl.UnitOk)
	if !impl.UnitSame(u, copyUnit(u)) || !slices.Equal(impl.UnitUses(u), []string{"A"}) || !slices.Equal(impl.HiddenVals(u), []string{"y"}) {
		t.Errorf("UnitUses = %v, HiddenVals = %v", impl.UnitUses(u), impl.HiddenVals(u))
	}
}
