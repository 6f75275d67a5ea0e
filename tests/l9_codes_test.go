package tests

import (
	"slices"
	"strings"
	"testing"

	"loop.example/modlink/impl"
)

// Lines that make an expression, or a type, too large when it is linked.
var largeLines = []string{
	"L:{x:I}={x:=" + sizedNum(201) + ";y:=(x+x)}",
	"L:{x:I}={x:=" + sizedNum(201) + "}|M:{}={y:=(L.x+L.x)}",
	"L:{t}={t=" + fullText(6, "I") + "}|M:{}={u=(L.t>I)}",
	"L:{t}={t=" + chainText(8) + "}|M:{}={x:=[(I>L.t)]1}",
}

// TestCodesOfLinking has each code, and which of two comes first.
func TestCodesOfLinking(t *testing.T) {
	for _, large := range append(largeLines, "") {
		within := large == ""
		with := func(lines ...string) string {
			return strings.Join(slices.DeleteFunc(lines, func(line string) bool { return line == "" }), "|")
		}
		checkLinkCode(t, with(large, "main 1"), codeFor(within), codeFor(within))
		checkLinkCode(t, with("$A", large, "$F", "B=F(A)", "main B.z"), codeFor(within), codeFor(within))
		// A program that does not check, in a declaration before or behind, or in its expression.
		for _, lines := range []string{
			with(large, "main A.x"), with(large, "main (1 1)"), with(large, "main #0"), with(large, "main x"),
			with("C:{x:I}={}", large, "main 1"), with(large, "C:{x:I}={}", "main 1"), with(large, "C:{}={x:=(1 1)}", "main 1"),
			with("B=F(A)", large, "main 1"), with(large, "$F", "B=F(A)", "main 1"), with(large, "$A", "$F", "B=F(A)(A)", "main 1"),
		} {
			checkNotLinked(t, parsedProgram(t, linesText(lines)), impl.LinkCheck)
		}
		// A program that is not valid.
		good := parsedProgram(t, linesText(with(large, "$A", "main 1")))
		for _, p := range []impl.Program{
			{Decls: good.Decls}, program(number(100), good.Decls...), program(call(number(1), exprLoop(3, number(1))), good.Decls...),
			program(good.Main, append(slices.Clone(good.Decls), good.Decls[0])...), program(good.Main, append(slices.Clone(good.Decls), impl.Decl{})...),
			program(good.Main, slices.Repeat(good.Decls, 9)...), program(path("Z", "x"), append(slices.Clone(good.Decls), madeDecl("B", "F", ""))...),
		} {
			checkInvalidProgram(t, p)
		}
	}
}

// TestOnlyTheExpressionIsTooLarge has programs whose modules can be linked.
func TestOnlyTheExpressionIsTooLarge(t *testing.T) {
	for _, lines := range []string{
		"C:{x:I}={x:=" + sizedNum(201) + "}|main (C.x+C.x)",
		"C:{x:I}={x:=" + deepNum(40) + "}|main (C.x+1)",
		"C:{t}={t=" + fullText(6, "I") + "}|main [(C.t>I)]1",
		"F(P:{t}):{u=(P.t>P.t)}={u=(P.t>P.t)}|C:{t}={t=" + fullText(5, "I") + "}|B=F(C)|main [(B.u>I)]1",
	} {
		checkLinkCode(t, lines, impl.LinkOk, impl.LinkLarge)
	}
	// The type of the expression is too large, but not what is linked.
	checkLinkCode(t, "C:{t}={t="+chainText(8)+"}|main [C.t]1", impl.LinkOk, impl.LinkOk)
	p := parsedProgram(t, linesText("C:{t}={t="+chainText(8)+"}|main [C.t]1"))
	typ, _ := impl.MainType(p)
	checkPlainType(t, p, typ, "", impl.LinkLarge)
}

// TestCodesOfPlainType has a type that is not valid together with each other code.
func TestCodesOfPlainType(t *testing.T) {
	ok := parsedProgram(t, linesText("$A|main 1"))
	unchecked := parsedProgram(t, linesText("$A|main (1 1)"))
	large := parsedProgram(t, linesText(largeLines[0]+"|main 1"))
	onlyMain := parsedProgram(t, linesText("C:{x:I}={x:="+sizedNum(201)+"}|main (C.x+C.x)"))
	for _, x := range append(invalidTypes(), loop(2, num), sharedType(200, num), fun(num, impl.Type{})) {
		checkPlainType(t, impl.Program{}, x, "", impl.LinkInvalid)
		checkPlainType(t, unchecked, x, "", impl.LinkCheck)
		checkPlainType(t, large, x, "", impl.LinkLarge)
		checkPlainType(t, ok, x, "", impl.LinkInvalid)
		checkPlainType(t, onlyMain, x, "", impl.LinkInvalid)
	}
	for _, text := range []string{"I", "A.t", "t", "(A.t>(t>Z.t))"} {
		checkPlainType(t, impl.Program{}, parsed(t, text), "", impl.LinkInvalid)
		checkPlainType(t, unchecked, parsed(t, text), "", impl.LinkCheck)
		checkPlainType(t, large, parsed(t, text), "", impl.LinkLarge)
		checkPlainType(t, ok, parsed(t, text), strings.ReplaceAll(text, "A.t", "I"), impl.LinkOk)
		checkPlainType(t, onlyMain, parsed(t, text), text, impl.LinkOk)
	}
}

// loopProgram takes many steps: it calls a function several times that calls another one very often.
const loopProgram = "C:{f:(I>I);m:((I>I)>I)}={n:=[(I>I)][I](#1 (#1 #0));f:=[I]((n (n (n (n [I](#0+1))))) #0);m:=[(I>I)](#0 (#0 (#0 (#0 0))))}|main "

// TestFuelOfPrograms has programs that take from some to more than MaxFuel steps.
func TestFuelOfPrograms(t *testing.T) {
	seen := map[int]bool{}
	for _, calls := range []string{"1", "(C.f 1)", "(C.m C.f)", "((C.m C.f)+(C.f (C.f (C.f 0))))"} {
		for more := range 40 {
			main := calls
			if more > 0 {
				// What is on the left is added up first, so that it takes no place later on.
				main = "(" + impl.FormatExpr(sumOf(more-1)) + "+" + calls + ")"
			}
			p := parsedProgram(t, linesText(loopProgram+main))
			e, code := impl.LinkMain(p)
			if code != impl.LinkOk {
				t.Fatalf("LinkMain of %s = %d", main, code)
			}
			linked := impl.FormatExpr(e)
			_, end, steps := runText(linked, 1000)
			if end != impl.RunValue {
				t.Fatalf("%s ends with %d", main, end)
			}
			seen[steps] = true
			for _, fuel := range []int{-1 << 62, -1, 0, 1, steps - 1, steps, steps + 1, 399, 400, 401, 1 << 62} {
				checkProgramRun(t, p, linked, fuel)
			}
		}
	}
	if !seen[0] || !seen[1] || !seen[399] || !seen[400] || !seen[401] {
		t.Errorf("the numbers of steps are %v", seen)
	}
}

// TestProgramsThatDoNotEndAsValues has programs that need more fuel, or whose expression becomes too large.
func TestProgramsThatDoNotEndAsValues(t *testing.T) {
	for main, want := range map[string]int{
		"(C.m C.f)":                                          impl.RunValue,
		"((C.m C.f)+((C.m C.f)+(C.m C.f)))":                  impl.RunFuel,
		"(([((I>I)>(I>I))](#0 (#0 (#0 C.f))) C.n) 1)":        impl.RunLarge,
		"(C.n (C.n (C.n (C.n (C.n (C.n (C.n [I]#0)))))))":    impl.RunLarge,
		"[I](C.n (C.n (C.n (C.n (C.n (C.n (C.n [I]#0)))))))": impl.RunValue,
	} {
		text := linesText(strings.Replace(loopProgram, "{f:", "{n:((I>I)>(I>I));f:", 1) + main)
		if r := checkProgram(t, text); r.code != impl.ProgOk {
			t.Fatalf("%q does not check: %d", text, r.code)
		}
		if _, code := impl.RunProgram(parsedProgram(t, text), 400); code != want {
			t.Errorf("RunProgram(%q) = %d, want %d", text, code, want)
		}
	}
}

func TestResultsOfLinkingAreNewMemory(t *testing.T) {
	p, kept := parsedProgram(t, memoryProgram), parsedProgram(t, memoryProgram)
	results := func() []string {
		binds, code := impl.LinkTypes(p)
		list, _ := impl.LinkDefs(p)
		main, _ := impl.LinkMain(p)
		typ, _ := impl.PlainType(p, parsed(t, "((B.u>C.t)>((I>I)>A.t))"))
		run, _ := impl.RunProgram(p, 400)
		if code != impl.LinkOk {
			t.Fatalf("LinkTypes = %d", code)
		}
		return []string{bindsText(binds), defsText(list), impl.FormatExpr(main), impl.FormatType(typ), impl.FormatExpr(run)}
	}
	want := results()
	check := func(what string) {
		t.Helper()
		if got := results(); !slices.Equal(got, want) || !equalPrograms(p, kept) {
			t.Fatalf("results of %s share memory: %v, want %v", what, got, want)
		}
	}
	binds, _ := impl.LinkTypes(p)
	for i := range binds {
		again, _ := impl.LinkTypes(p)
		spoil(again[i].Type)
		again[i] = impl.Bind{Mod: binds[i].Mod, Name: binds[i].Name, Type: copyType(binds[i].Type)}
		if bindsText(again) != want[0] {
			t.Error("types of one result of LinkTypes share memory")
		}
	}
	for _, b := range binds[:cap(binds)] {
		spoil(b.Type)
	}
	check("LinkTypes")
	list, _ := impl.LinkDefs(p)
	for i := range list {
		again, _ := impl.LinkDefs(p)
		spoilExpr(again[i].Expr)
		again[i] = def(list[i].Mod, list[i].Name, copyExpr(list[i].Expr))
		if defsText(again) != want[1] {
			t.Error("values of one result of LinkDefs share memory")
		}
	}
	for _, d := range list[:cap(list)] {
		spoilExpr(d.Expr)
	}
	check("LinkDefs")
	main, _ := impl.LinkMain(p)
	for i := range main.Kids {
		again, _ := impl.LinkMain(p)
		spoilExpr(again.Kids[i])
		again.Kids[i] = copyExpr(main.Kids[i])
		if impl.FormatExpr(again) != want[2] {
			t.Error("parts of one result of LinkMain share memory")
		}
	}
	spoilExpr(main)
	check("LinkMain")
	x := parsed(t, "((B.u>C.t)>((I>I)>A.t))")
	typ, _ := impl.PlainType(p, x)
	spoil(typ.Kids[0])
	if impl.FormatType(typ.Kids[1]) != "((I>I)>((I>I)>I))" || impl.FormatType(x) != "((B.u>C.t)>((I>I)>A.t))" {
		t.Error("parts of a result of PlainType share memory")
	}
	spoil(typ)
	check("PlainType")
	run, _ := impl.RunProgram(p, 400)
	spoilExpr(run)
	check("RunProgram")
}

func TestLinkArgumentsAreNotChanged(t *testing.T) {
	p := parsedProgram(t, memoryProgram)
	p.Decls = append(p.Decls, unitDecl(impl.Unit{Name: "E"}), madeDecl("E", "F", "A"), impl.Decl{})
	backing := []impl.Type{name("A", "t"), name("B", "u"), fun(num, name("C", "t")), {}}
	kept, keptTypes := copyProgram(p), copyType(impl.Type{Kids: backing})
	for size := range len(p.Decls) + 1 {
		q := impl.Program{Decls: p.Decls[:size], Main: p.Main}
		impl.LinkTypes(q)
		impl.LinkDefs(q)
		impl.LinkMain(q)
		for count := range len(backing) + 1 {
			impl.PlainType(q, impl.Type{Kind: impl.TypeFun, Kids: backing[:count]})
		}
		impl.RunProgram(q, 400)
	}
	if !equalPrograms(p, kept) || !equalTypes(impl.Type{Kids: backing}, keptTypes) {
		t.Fatalf("an argument has changed: %v, %v", p, backing)
	}
}

// TestLinkedSharedPrograms has programs of which many parts are the same memory.
func TestLinkedSharedPrograms(t *testing.T) {
	u := parsedUnit(t, "A:{t;u=((t>t)>t);x:u}={t=I;u=((t>t)>t);x:=[(t>t)](#0 1)}")
	named := func(n string, params ...impl.Import) impl.Decl {
		return unitDecl(impl.Unit{Name: n, Params: params, Body: u.Body, Face: u.Face})
	}
	args := []string{"A", "B", "A"}
	decls := []impl.Decl{named("A"), named("F", module("P", u.Face), module("Q", u.Face), module("R", u.Face[:1])), named("B"), {Made: "J", Functor: "F", Args: args}, {Made: "K", Functor: "F", Args: args[1:]}, {Made: "L", Functor: "F", Args: args}}
	main := sum(number(1), number(2))
	p := program(choice(main, main, main), decls[0], decls[1], decls[2], decls[3], decls[5])
	checkProgram(t, impl.FormatProgram(p))
	binds, code := impl.LinkTypes(p)
	list, _ := impl.LinkDefs(p)
	const types, value = "A.t=I A.u=((I>I)>I)", "A.x:=[(I>I)](#0 1)"
	wantTypes, wantValues := types, value
	for _, n := range []string{"B", "J", "L"} {
		wantTypes += " " + strings.ReplaceAll(types, "A.", n+".")
		wantValues += ";" + strings.ReplaceAll(value, "A.", n+".")
	}
	if code != impl.LinkOk || bindsText(binds) != wantTypes || defsText(list) != wantValues {
		t.Errorf("a program with shared parts is linked to %s, %s, %d", bindsText(binds), defsText(list), code)
	}
	checkLinkedMain(t, p, "?<(1+2),(1+2),(1+2)>")
	checkNotLinked(t, program(main, decls...), impl.LinkCheck)
	checkNotLinked(t, program(main, decls[0], decls[0]), impl.LinkInvalid)
	checkNotLinked(t, program(sharedExpr(200, number(1)), decls[:3]...), impl.LinkInvalid)
	// A sum of values that share most of their memory, within the limits and past them.
	for levels := 5; levels <= 7; levels++ {
		body := defs(valDef("x", sharedExpr(levels, number(1))), valDef("y", path("", "x")))
		q := program(path("C", "y"), unitDecl(impl.Unit{Name: "C", Body: body, Face: items(val("y", num))}))
		checkProgram(t, impl.FormatProgram(q))
		if e, code := impl.LinkMain(q); code != impl.LinkOk || !equalExprs(e, sharedExpr(levels, number(1))) {
			t.Errorf("LinkMain with %d levels = %d", levels, code)
		}
		q.Main = sum(q.Main, q.Main)
		want := codeFor(levels < 7)
		if _, code := impl.LinkMain(q); code != want {
			t.Errorf("LinkMain with %d levels, twice = %d, want %d", levels, code, want)
		}
	}
}

// TestLinkedProgramsThatContainThemselves has declarations and expressions that contain themselves.
func TestLinkedProgramsThatContainThemselves(t *testing.T) {
	for _, levels := range []int{1, 2, 39, 1000} {
		x, e := loop(levels, num), exprLoop(levels, number(1))
		good := parsedProgram(t, linesText("$A|$F|B=F(A)|main (B.g B.z)"))
		for _, p := range []impl.Program{
			program(e), program(e, good.Decls...), program(lambda(x, number(1)), good.Decls...),
			program(good.Main, append(slices.Clone(good.Decls), unitDecl(impl.Unit{Name: "C", Body: defs(valDef("x", e))}))...),
			program(good.Main, append(slices.Clone(good.Decls), unitDecl(impl.Unit{Name: "C", Body: defs(typeDef("t", x))}))...),
			program(good.Main, append(slices.Clone(good.Decls), unitDecl(impl.Unit{Name: "C", Face: items(val("x", x))}))...),
			program(good.Main, append(slices.Clone(good.Decls), unitDecl(impl.Unit{Name: "C", Params: modules(module("P", items(alias("t", x))))}))...),
		} {
			checkInvalidProgram(t, p)
		}
		checkPlainType(t, good, x, "", impl.LinkInvalid)
		checkPlainType(t, good, fun(name("A", "t"), x), "", impl.LinkInvalid)
	}
}
