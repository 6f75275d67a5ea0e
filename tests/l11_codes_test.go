package tests

import (
	"slices"
	"strings"
	"testing"

	"loop.example/modlink/impl"
)

// someProgram is a program with what is known about it: the code that the functions return for it, whatever else they
// are given, or UpgradeOk; and whether another expression can make it check.
type someProgram struct {
	program impl.Program
	code    int
	mends   bool
}

// programsForCodes lists programs that declare the names of upgradeLines, unless they are not valid.
func programsForCodes(t *testing.T) []someProgram {
	t.Helper()
	good := linesText(upgradeLines)
	list := []someProgram{{parsedProgram(t, good), impl.UpgradeOk, true}}
	for _, main := range []string{"(1 1)", "A.q", "#0", "x", "[t]1", "(A.z+1)"} {
		p := parsedProgram(t, good)
		p.Main = parsedExpr(t, main)
		list = append(list, someProgram{p, impl.UpgradeCheck, true})
	}
	for _, change := range []string{"z:=0>z:=[I]0", "P.z>P.q", "B=F(A)>B=A(A)", "B=F(A)>B=F(F)", "B=F(A)>B=F(A)(A)", "(B.s B.z)>(B.s A.z)", "{w:=(B.g C.x)}>{}", "{x:B.t}>{x:H.t}"} {
		from, to, _ := strings.Cut(change, ">")
		text := strings.Replace(good, from, to, 1)
		if checkTexts(text).code == impl.ProgOk {
			t.Errorf("%q checks", text)
		}
		list = append(list, someProgram{parsedProgram(t, text), impl.UpgradeCheck, false})
	}
	p := parsedProgram(t, good)
	for _, bad := range []impl.Program{{}, {Decls: p.Decls}, {Decls: p.Decls, Main: number(100)}, program(exprLoop(1, number(1)), p.Decls...), program(p.Main, append(slices.Clone(p.Decls), p.Decls[0])...), program(p.Main, append(slices.Clone(p.Decls), impl.Decl{})...), program(p.Main, slices.Repeat(p.Decls, 2)...)} {
		list = append(list, someProgram{bad, impl.UpgradeInvalid, false})
	}
	return list
}

// firstCode returns the first code that applies. The codes are those for the program and for other arguments.
func firstCode(program int, others ...int) int {
	codes := slices.DeleteFunc(append(others, program), func(code int) bool { return code == impl.UpgradeOk })
	if len(codes) == 0 {
		return impl.UpgradeOk
	}
	return slices.Min(codes)
}

// codesOfNames are those for the names of upgradeLines, and for others, where a unit is needed.
var codesOfNames = map[string]int{"A": impl.UpgradeOk, "F": impl.UpgradeOk, "B": impl.UpgradeName, "C": impl.UpgradeUnit, "H": impl.UpgradeUnit, "P": impl.UpgradeName, "Z": impl.UpgradeName, "": impl.UpgradeName, "I": impl.UpgradeName, "a": impl.UpgradeName, "AA": impl.UpgradeName, "\xff": impl.UpgradeName}

// TestWhichCodeOfReplacingComesFirst has each code together with each other one.
func TestWhichCodeOfReplacingComesFirst(t *testing.T) {
	seen := map[int]int{}
	check := func(what string, got impl.Program, code, wanted int) {
		t.Helper()
		seen[wanted]++
		if code != wanted || code != impl.UpgradeOk && !zeroProgram(got) {
			t.Errorf("%s = %.300v, %d, want %d", what, got, code, wanted)
		}
	}
	// The bodies offer what A and F ask for, but not what C and H do; then, nothing that any of them asks for.
	bodies := map[string]int{numberBody: impl.UpgradeOk, unaryBody: impl.UpgradeOk, "{}": impl.UpgradeUnit, "{x:=(1 1)}": impl.UpgradeUnit, "{t=Z.t}": impl.UpgradeUnit}
	invalid := [][]impl.Item{defs(impl.Item{}), defs(valDef("x", variable(0))), defs(valDef("x", exprLoop(1, number(1)))), make([]impl.Item, 11)}
	for _, p := range programsForCodes(t) {
		for n, nameCode := range codesOfNames {
			checkScopeCode(t, p, n)
			for body, bodyCode := range bodies {
				u := impl.Unit{Name: n, Body: parsedStruct(t, body)}
				q, code := impl.ReplaceBody(p.program, n, u.Body)
				check("ReplaceBody of "+n+" and "+body, q, code, firstCode(p.code, nameCode, bodyCode))
				unitCode := bodyCode
				if !impl.ModuleName(n) {
					unitCode = impl.UpgradeInvalid
				}
				q, code = impl.UpgradeProgram(p.program, u)
				check("UpgradeProgram of "+n+" and "+body, q, code, firstCode(p.code, nameCode, unitCode))
				u.Face = items(val("x", name("Z", "q")))
				q, code = impl.UpgradeProgram(p.program, u)
				check("UpgradeProgram of "+impl.FormatUnit(u), q, code, firstCode(p.code, nameCode, unitCode, impl.UpgradeUnit))
			}
			for _, s := range invalid {
				q, code := impl.ReplaceBody(p.program, n, s)
				check("ReplaceBody of "+n, q, code, impl.UpgradeInvalid)
				q, code = impl.UpgradeProgram(p.program, impl.Unit{Name: n, Body: s})
				check("UpgradeProgram of "+n, q, code, impl.UpgradeInvalid)
			}
		}
		for main, mainCode := range map[string]int{"1": impl.UpgradeOk, "(A.g A.z)": impl.UpgradeOk, "(A.z+1)": impl.UpgradeCheck, "#0": impl.UpgradeCheck, "Z.x": impl.UpgradeCheck} {
			wanted := firstCode(p.code, mainCode)
			if p.mends {
				wanted = mainCode
			}
			q, code := impl.ReplaceMain(p.program, parsedExpr(t, main))
			check("ReplaceMain with "+main, q, code, wanted)
		}
		for _, e := range []impl.Expr{{}, number(100), variable(13), exprLoop(1, number(1)), deep(41)} {
			q, code := impl.ReplaceMain(p.program, e)
			check("ReplaceMain", q, code, impl.UpgradeInvalid)
		}
	}
	for code := impl.UpgradeOk; code <= impl.UpgradeUnit; code++ {
		if seen[code] < 10 {
			t.Errorf("the code %d has come %d times", code, seen[code])
		}
	}
}

// checkScopeCode checks the code of ScopeBefore, for which a module that a functor makes is as good as a unit.
func checkScopeCode(t *testing.T, p someProgram, n string) {
	t.Helper()
	wanted := firstCode(p.code, impl.UpgradeName)
	if slices.Contains([]string{"A", "B", "C", "F", "H"}, n) {
		wanted = p.code
	}
	if scope, code := impl.ScopeBefore(p.program, n); code != wanted || code != impl.UpgradeOk && len(scope) != 0 {
		t.Errorf("ScopeBefore of %q = %v, %d, want %d", n, scope, code, wanted)
	}
}

// checkInvalidReplacement checks that all functions return UpgradeInvalid, or false, for a program that is not valid.
func checkInvalidReplacement(t *testing.T, p, good impl.Program) {
	t.Helper()
	for _, name := range []string{"A", "B", "F", "Z", "", "I"} {
		if q, code := impl.ReplaceBody(p, name, nil); code != impl.UpgradeInvalid || !zeroProgram(q) {
			t.Errorf("ReplaceBody = %v, %d", q, code)
		}
		if q, code := impl.UpgradeProgram(p, impl.Unit{Name: name}); code != impl.UpgradeInvalid || !zeroProgram(q) {
			t.Errorf("UpgradeProgram = %v, %d", q, code)
		}
		if scope, code := impl.ScopeBefore(p, name); code != impl.UpgradeInvalid || len(scope) != 0 {
			t.Errorf("ScopeBefore = %v, %d", scope, code)
		}
		if impl.PlainSame(p, p, name) || impl.PlainSame(p, good, name) || impl.PlainSame(good, p, name) {
			t.Errorf("PlainSame of %s is true", name)
		}
	}
	for _, e := range []impl.Expr{number(1), path("Z", "x"), {}} {
		if q, code := impl.ReplaceMain(p, e); code != impl.UpgradeInvalid || !zeroProgram(q) {
			t.Errorf("ReplaceMain = %v, %d", q, code)
		}
	}
}

func TestReplacementsInInvalidPrograms(t *testing.T) {
	good := parsedProgram(t, linesText("$A|$F|B=F(A)|main (B.g B.z)"))
	for _, p := range invalidPrograms(t, good) {
		checkInvalidReplacement(t, p, good)
	}
}

// TestReplacementsByWhatIsInvalid has programs that are valid and check or not, or are not valid, too.
func TestReplacementsByWhatIsInvalid(t *testing.T) {
	for _, p := range []impl.Program{parsedProgram(t, linesText(upgradeLines)), parsedProgram(t, linesText("$A|$F|main A.q")), program(number(1)), {}} {
		var bodies [][]impl.Item
		for _, x := range invalidDefs() {
			bodies = append(bodies, defs(x), append(parsedStruct(t, numberBody), x), append(defs(x), parsedStruct(t, numberBody)...))
		}
		bodies = append(bodies, make([]impl.Item, 1000000), slices.Repeat(parsedStruct(t, numberBody), 2), slices.Repeat(parsedStruct(t, numberBody), 100000), parsedStruct(t, numberBody)[1:])
		for _, body := range bodies {
			for _, name := range []string{"A", "B", "F", "Z", ""} {
				if q, code := impl.ReplaceBody(p, name, body); code != impl.UpgradeInvalid || !zeroProgram(q) {
					t.Errorf("ReplaceBody of %s and %.300v = %v, %d", name, body, q, code)
				}
			}
		}
		units := append(invalidUnits(t), sharingUnits()...)
		for _, n := range noNames {
			if !impl.ModuleName(n) {
				units = append(units, impl.Unit{Name: n, Body: parsedStruct(t, numberBody), Face: parsedSig(t, counterFace)})
			}
		}
		for _, u := range units {
			for _, name := range []string{u.Name, "A", "F", "Z"} {
				bad := u
				if bad.Name = name; impl.UnitValid(bad) {
					continue // its name was all that is not valid
				}
				if q, code := impl.UpgradeProgram(p, bad); code != impl.UpgradeInvalid || !zeroProgram(q) {
					t.Errorf("UpgradeProgram by %.300v = %v, %d", bad, q, code)
				}
			}
		}
		for _, e := range append(invalidExprs(), deep(41), exprLoop(1, number(1)), exprLoop(1000, path("A", "z")), sharedExpr(200, number(1)), sharedExpr(9, number(1))) {
			if q, code := impl.ReplaceMain(p, e); code != impl.UpgradeInvalid || !zeroProgram(q) {
				t.Errorf("ReplaceMain with %.300v = %v, %d", e, q, code)
			}
		}
	}
}

// TestLimitsOfReplacements has bodies and expressions that are just within the limits, or past them.
func TestLimitsOfReplacements(t *testing.T) {
	p := parsedProgram(t, linesText("A:{x:I}={x:=1}|main (A.x+1)"))
	check := func(e impl.Expr, within bool) {
		t.Helper()
		body, wanted := defs(typeDef("t", num), valDef("x", e)), impl.UpgradeInvalid
		if within {
			wanted = impl.UpgradeOk
		}
		checkBodyCode(t, p, body, wanted)
		if q, code := impl.ReplaceMain(p, e); code != wanted || within && !equalExprs(q.Main, e) {
			t.Errorf("ReplaceMain = %.300v, %d, want %d", q, code, wanted)
		}
	}
	for count := 395; count <= 405; count++ {
		e := sumOf(count / 2)
		if count%2 == 0 {
			e = choice(number(1), number(1), sumOf((count-3)/2))
		}
		check(e, count <= 400)
	}
	for depth := 38; depth <= 42; depth++ {
		e := number(0)
		for range depth - 1 {
			e = sum(number(1), e)
		}
		check(e, depth <= 40)
	}
}

// checkBodyCode checks the code for a body of the only unit A of a program, whose signature has no type.
func checkBodyCode(t *testing.T, p impl.Program, body []impl.Item, wanted int) {
	t.Helper()
	want := impl.Program{}
	if wanted == impl.UpgradeOk {
		want = copyProgram(p)
		want.Decls[0].Unit.Body = body
	}
	if q, code := impl.ReplaceBody(p, "A", body); code != wanted || !equalPrograms(q, want) {
		t.Errorf("ReplaceBody = %.300v, %d, want %d", q, code, wanted)
	}
	if q, code := impl.UpgradeProgram(p, impl.Unit{Name: "A", Body: body}); code != wanted || !equalPrograms(q, want) {
		t.Errorf("UpgradeProgram = %.300v, %d, want %d", q, code, wanted)
	}
}

// TestNumbersOfDefinitions has bodies of one to twelve definitions, of which ten are valid, but eight are accepted.
func TestNumbersOfDefinitions(t *testing.T) {
	p := parsedProgram(t, linesText("A:{x:I}={x:=1}|main (A.x+1)"))
	for count := 1; count <= 12; count++ {
		body := defs(valDef("x", number(1)))
		for i, n := range strings.Split("abcdefghijk", "")[:count-1] {
			if i%3 == 0 {
				body = append(body, typeDef(n, num))
			} else {
				body = append(body, valDef(n, number(2)))
			}
		}
		wanted := impl.UpgradeOk
		if count > 10 {
			wanted = impl.UpgradeInvalid
		} else if count > 8 {
			wanted = impl.UpgradeUnit
		}
		checkBodyCode(t, p, body, wanted)
	}
}

// TestTypesOfNewBodies has types that are just within the limits, or past them, or become so.
func TestTypesOfNewBodies(t *testing.T) {
	p := parsedProgram(t, linesText("A:{x:I}={x:=1}|main (A.x+1)"))
	for depth := 1; depth <= 9; depth++ {
		for _, x := range []impl.Type{chain(depth, true, num), chain(depth, false, num)} {
			wanted, inFunction := impl.UpgradeOk, impl.UpgradeOk
			if depth > 8 {
				wanted, inFunction = impl.UpgradeInvalid, impl.UpgradeInvalid
			} else if depth == 8 {
				inFunction = impl.UpgradeUnit
			}
			checkBodyCode(t, p, defs(typeDef("t", x), valDef("x", number(1))), wanted)
			checkBodyCode(t, p, defs(valDef("y", lambda(x, number(1))), valDef("x", number(1))), inFunction)
			mainCode := inFunction
			if mainCode == impl.UpgradeUnit {
				mainCode = impl.UpgradeCheck
			}
			if _, code := impl.ReplaceMain(p, lambda(x, number(1))); code != mainCode {
				t.Errorf("ReplaceMain with a type of the depth %d = %d, want %d", depth, code, mainCode)
			}
		}
	}
}

// TestModulesAndParametersOfUpgrades has as many of them as a scope may have, or more.
func TestModulesAndParametersOfUpgrades(t *testing.T) {
	params := []string{"", "(P:{y:I})", "(P:{y:I})(Q:{y:I})", "(P:{y:I})(Q:{y:I})(R:{y:I})"}
	for count := 1; count <= 8; count++ {
		var lines []string
		for _, n := range strings.Split("ABCDEGHJ", "")[:count] {
			lines = append(lines, n+":{x:I}={x:=1}")
		}
		text, last := linesText(strings.Join(append(lines, "main 1"), "|")), lines[count-1][:1]
		for i, some := range params {
			wanted := impl.UpgradeOk
			if count-1+i > 8 {
				wanted = impl.UpgradeUnit
			}
			if _, code := checkUpgrade(t, text, last+some+":{x:I}={x:=2}"); code != wanted {
				t.Errorf("UpgradeProgram with the parameters %s behind %d modules = %d, want %d", some, count-1, code, wanted)
			}
		}
	}
}

// TestReplacementsInSharedPrograms has programs of which many parts are the same memory, also that of the arguments.
func TestReplacementsInSharedPrograms(t *testing.T) {
	u := parsedUnit(t, "A:{t;u=((t>t)>t);x:u}={t=I;u=((t>t)>t);x:=[(t>t)](#0 1)}")
	named := func(n string, params ...impl.Import) impl.Decl {
		return unitDecl(impl.Unit{Name: n, Params: params, Body: u.Body, Face: u.Face})
	}
	args := []string{"A", "B", "A"}
	main := sum(number(1), number(2))
	p := program(choice(main, main, main), named("A"), named("F", module("P", u.Face), module("Q", u.Face), module("R", u.Face[:1])), named("B"), impl.Decl{Made: "J", Functor: "F", Args: args}, impl.Decl{Made: "L", Functor: "F", Args: args})
	kept := copyProgram(p)
	other := append(u.Body[:2:2], valDef("x", lambda(u.Body[1].Type.Kids[0], p.Main)))
	for _, body := range [][]impl.Item{u.Body, other} {
		for at, n := range []string{"A", "F", "B"} {
			want, v := copyProgram(kept), p.Decls[at].Unit
			want.Decls[at].Unit.Body, v.Body = copyStruct(body), body
			q, code := impl.ReplaceBody(p, n, body)
			r, upgraded := impl.UpgradeProgram(p, v)
			if code != impl.UpgradeOk || upgraded != impl.UpgradeOk || !equalPrograms(q, want) || !equalPrograms(r, want) {
				t.Errorf("%s: ReplaceBody = %q, %d, UpgradeProgram = %q, %d", n, impl.FormatProgram(q), code, impl.FormatProgram(r), upgraded)
			}
		}
		if q, code := impl.ReplaceBody(p, "A", body[:2]); code != impl.UpgradeUnit || !zeroProgram(q) {
			t.Errorf("ReplaceBody with a part of the old body = %q, %d", impl.FormatProgram(q), code)
		}
	}
	want := copyProgram(kept)
	want.Main = copyExpr(main)
	if q, code := impl.ReplaceMain(p, main); code != impl.UpgradeOk || !equalPrograms(q, want) {
		t.Errorf("ReplaceMain with a part of the old expression = %q, %d", impl.FormatProgram(q), code)
	}
	if q, code := impl.ReplaceMain(p, p.Main); code != impl.UpgradeOk || !equalPrograms(q, kept) {
		t.Errorf("ReplaceMain with the old expression = %q, %d", impl.FormatProgram(q), code)
	}
	for _, n := range []string{"A", "B", "J", "L"} {
		if !impl.PlainSame(p, p, n) || !impl.PlainSame(p, kept, n) || !impl.PlainSame(kept, p, n) {
			t.Errorf("the types of %s are not the same as themselves", n)
		}
	}
	const sig = "{t;u=((t>t)>t);x:u}"
	if scope, code := impl.ScopeBefore(p, "L"); code != impl.UpgradeOk || scopeText(scope) != "A:"+sig+" B:"+sig+" J:"+sig {
		t.Errorf("ScopeBefore = %s, %d", scopeText(scope), code)
	}
	if !equalPrograms(p, kept) {
		t.Error("an argument has changed")
	}
}

// replacements are arguments for memoryProgram, in which they replace a unit, or the expression.
type replacements struct {
	program impl.Program
	unit    impl.Unit
	main    impl.Expr
}

func newReplacements(t *testing.T) replacements {
	t.Helper()
	p := parsedProgram(t, memoryProgram)
	u := copyUnit(p.Decls[0].Unit)
	u.Params = modules(module("P", parsedSig(t, "{t;x:((t>t)>t)}")), module("Q", parsedSig(t, "{t=P.t}")))
	return replacements{p, u, parsedExpr(t, "[(A.t>A.t)](#0 A.x)")}
}

func (r replacements) equal(other replacements) bool {
	return equalPrograms(r.program, other.program) && equalUnits(r.unit, other.unit) && equalExprs(r.main, other.main)
}

// results returns the results of all functions that return a program.
func (r replacements) results(t *testing.T) []impl.Program {
	t.Helper()
	replaced, first := impl.ReplaceBody(r.program, "A", r.unit.Body)
	upgraded, second := impl.UpgradeProgram(r.program, r.unit)
	main, third := impl.ReplaceMain(r.program, r.main)
	if first != impl.UpgradeOk || second != impl.UpgradeOk || third != impl.UpgradeOk {
		t.Fatalf("ReplaceBody = %d, UpgradeProgram = %d, ReplaceMain = %d", first, second, third)
	}
	return []impl.Program{replaced, upgraded, main}
}

func TestResultsOfReplacingAreNewMemory(t *testing.T) {
	r, got := newReplacements(t), newReplacements(t).results(t)
	var want []impl.Program
	for _, q := range got {
		want = append(want, copyProgram(q))
	}
	for i := range want {
		spoilProgram(r.results(t)[i])
		if !r.equal(newReplacements(t)) {
			t.Fatalf("result %d shares memory with an argument", i)
		}
		for j := range want[i].Decls {
			for _, spoilPart := range []func(q impl.Program){func(q impl.Program) { spoilUnit(q.Decls[j].Unit) }, func(q impl.Program) { spoilStruct(q.Decls[j].Unit.Body) }, func(q impl.Program) { spoilNames(q.Decls[j].Args) }, func(q impl.Program) { spoilExpr(q.Main) }} {
				changed, wanted := r.results(t)[i], copyProgram(want[i])
				spoilPart(changed)
				spoilPart(wanted)
				if !equalPrograms(changed, wanted) {
					t.Errorf("parts of result %d share memory", i)
				}
			}
		}
	}
	got = r.results(t)
	spoilProgram(r.program)
	spoilUnit(r.unit)
	spoilExpr(r.main)
	for i := range want {
		if !equalPrograms(got[i], want[i]) {
			t.Errorf("result %d shares memory with an argument", i)
		}
	}
}

func TestScopesBeforeAreNewMemory(t *testing.T) {
	p := parsedProgram(t, memoryProgram)
	kept := copyProgram(p)
	scope, code := impl.ScopeBefore(p, "D")
	again, _ := impl.ScopeBefore(p, "D")
	keptScope := copyScope(again)
	if code != impl.UpgradeOk || len(scope) != 3 {
		t.Fatalf("ScopeBefore = %s, %d", scopeText(scope), code)
	}
	for i := range scope {
		spoilSig(again[i].Sig)
		for j := range scope {
			if j != i && !equalSigs(again[j].Sig, keptScope[j].Sig) {
				t.Error("signatures of one result of ScopeBefore share memory")
			}
		}
		again, _ = impl.ScopeBefore(p, "D")
	}
	for i := range scope[:cap(scope)] {
		spoilSig(scope[:cap(scope)][i].Sig)
		scope[:cap(scope)][i] = module("spoiled", nil)
	}
	if !equalScopes(again, keptScope) || !equalPrograms(p, kept) {
		t.Error("results of ScopeBefore share memory")
	}
}

func TestArgumentsOfReplacingAreNotChanged(t *testing.T) {
	p := parsedProgram(t, memoryProgram)
	p.Decls = append(p.Decls, unitDecl(impl.Unit{Name: "E"}), madeDecl("E", "F", "A"), impl.Decl{})
	u := parsedUnit(t, "A(P:{t})(Q:{t=P.t}):{t;u=((t>t)>t);x:t;y:(u>t)}={t=((I>I)>I);u=((t>t)>t);x:=[(I>I)]2;y:=[u]x}")
	u.Body = append(u.Body, impl.Item{}, typeDef("t", num))
	e := choice(path("A", "x"), number(1), path("Z", "x"))
	kept, keptUnit, keptMain := copyProgram(p), copyUnit(u), copyExpr(e)
	for size := range len(p.Decls) + 1 {
		q := impl.Program{Decls: p.Decls[:size], Main: number(1)}
		for count := range len(u.Body) + 1 {
			for params := range len(u.Params) + 1 {
				for face := range len(u.Face) + 1 {
					v := impl.Unit{Name: "A", Params: u.Params[:params], Body: u.Body[:count], Face: u.Face[:face]}
					impl.UpgradeProgram(q, v)
				}
			}
			for _, name := range []string{"A", "B", "C", "D", "E", "F", "Z", ""} {
				impl.ReplaceBody(q, name, u.Body[:count])
				impl.ScopeBefore(q, name)
				impl.PlainSame(p, q, name)
				impl.PlainSame(q, q, name)
			}
		}
		for count := range len(e.Kids) + 1 {
			impl.ReplaceMain(q, impl.Expr{Kind: impl.ExprAdd, Kids: e.Kids[:count]})
			impl.ReplaceMain(q, impl.Expr{Kind: impl.ExprIf, Kids: e.Kids[:count]})
		}
	}
	if !equalPrograms(p, kept) || !equalUnits(u, keptUnit) || !equalExprs(e, keptMain) {
		t.Fatalf("an argument has changed: %v, %v, %v", p, u, e)
	}
}
