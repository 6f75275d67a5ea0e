package tests

import (
	"slices"
	"strings"
	"testing"

	"loop.example/modlink/impl"
)

func TestDeclUses(t *testing.T) {
	for line, want := range map[string]string{
		"C:{}={}":                         "",
		"C:{t;z:t}={t=I;z:=0}":            "",
		counterUnit:                       "",
		"C:{x:A.t}={}":                    "A",
		"C:{t=(B.t>A.t)}={}":              "A B",
		"C:{}={t=A.t}":                    "A",
		"C:{}={x:=A.x}":                   "A",
		"C:{}={x:=[A.t]1}":                "A",
		"C:{}={x:=[(I>(B.t>I))](#0 A.x)}": "A B",
		"C:{x:Z.t;y:Z.u}={x:=(Z.x Y.x);t=X.t;y:=[W.t]Z.y}": "W X Y Z",
		// Its own name, and names that nothing defines, count.
		"C:{x:C.t}={}":        "C",
		"C:{}={x:=(C.x C.y)}": "C",
		"C:{x:B.t}={x:=C.x}":  "B C",
		// Parameters do not count, but what their signatures mention does.
		"F(P:{t}):{}={}":                                        "",
		"F(P:{t;x:t}):{x:P.t}={x:=P.x}":                         "",
		"F(P:{x:A.t}):{}={}":                                    "A",
		"F(P:{t})(Q:{x:P.t})(R:{x:(Q.t>A.t)}):{x:R.t}={x:=R.x}": "A",
		"F(P:{x:Q.t})(Q:{x:B.t}):{}={}":                         "B",
		"F(P:{t}):{x:A.t}={x:=(B.x P.x)}":                       "A B",
		"F(P:{x:F.t}):{}={x:=P.x}":                              "F",
		"F(A:{t}):{x:A.t}={x:=(A.x B.x)}":                       "B",
		twiceFunctor:                                            "",
		viewUnit:                                                "A",
		// Functors and arguments, each once.
		"B=F(A)":       "A F",
		"B=A(F)":       "A F",
		"B=F(C)(A)":    "A C F",
		"B=M(Z)(A)(K)": "A K M Z",
		"B=M(Z)(Z)(Z)": "M Z",
		"B=F(A)(C)(A)": "A C F",
		"B=F(F)":       "F",
		"B=F(A)(F)":    "A F",
		"B=F(B)":       "B F",
		"B=B(B)(B)(B)": "B",
	} {
		d := parsedProgram(t, line+"\nmain (Z.x Y.x)\n").Decls[0]
		checkDeclUses(t, d, strings.Fields(want)...)
		if got := splitDecl(line).uses; strings.Join(got, " ") != want {
			t.Errorf("the text of %s uses %v", line, got)
		}
		if d.Made == "" && !slices.Equal(impl.DeclUses(d), impl.UnitUses(d.Unit)) {
			t.Errorf("DeclUses of %s are not the UnitUses", line)
		}
	}
	// Each letter can be used.
	for _, n := range strings.Split("ABCDEFGHJKLMNOPQRSTUVWXYZ", "") {
		checkDeclUses(t, madeDecl("A", n, n), n)
		checkDeclUses(t, unitDecl(impl.Unit{Name: "A", Face: items(val("x", name(n, "t")))}), n)
	}
}

// invalidDecls lists declarations that are not as ProgramValid wants them.
func invalidDecls(t *testing.T) []impl.Decl {
	t.Helper()
	unit := parsedUnit(t, someUnit)
	list := []impl.Decl{
		{}, {Made: "B"}, {Functor: "F"}, {Args: []string{"A"}}, {Args: []string{""}}, {Made: "B", Functor: "F"}, {Made: "B", Args: []string{"A"}}, {Functor: "F", Args: []string{"A"}},
		{Unit: unit, Made: "B"}, {Unit: unit, Functor: "F"}, {Unit: unit, Args: []string{"A"}}, {Unit: unit, Args: []string{""}}, {Unit: unit, Made: "B", Functor: "F", Args: []string{"A"}}, {Unit: impl.Unit{Name: "B"}, Made: "B", Functor: "F", Args: []string{"A"}}, {Unit: impl.Unit{Face: items(val("x", name("A", "t")))}, Made: "B", Functor: "F", Args: []string{"A"}},
		madeDecl("B", "F"), madeDecl("B", "F", "A", "C", "A", "C"), madeDecl("B", "F", make([]string, 1000000)...), madeDecl("B", "F", slices.Repeat([]string{"A"}, 1000000)...),
	}
	for _, n := range []string{"", "I", "a", "AA", " A", "A.", "\xff", "\n", strings.Repeat("A", 1000000)} {
		list = append(list, unitDecl(impl.Unit{Name: n, Face: items(val("x", name("A", "t")))}), madeDecl(n, "F", "A"), madeDecl("B", n, "A"), madeDecl("B", "F", n), madeDecl("B", "F", "A", n), madeDecl("B", "F", "A", n, "C"))
	}
	for _, u := range append(invalidUnits(t), sharingUnits()...) {
		list = append(list, unitDecl(u))
	}
	return append(list, largeProgram(1, "A").Decls[0], unitDecl(largeProgram(1, "A").Decls[0].Unit))
}

// sharingUnits lists units that are not valid because they contain parts of themselves, or very many parts that are
// the same memory.
func sharingUnits() []impl.Unit {
	var list []impl.Unit
	for _, x := range []impl.Type{loop(1, num), loop(2, name("A", "t")), loop(1000, num), sharedType(200, num), sharedType(200, name("A", "t"))} {
		sig := items(val("x", x))
		list = append(list, impl.Unit{Name: "A", Face: sig}, impl.Unit{Name: "A", Params: modules(module("P", sig))}, impl.Unit{Name: "A", Body: defs(typeDef("t", x))}, impl.Unit{Name: "A", Body: defs(valDef("x", lambda(x, number(1))))})
	}
	for _, e := range []impl.Expr{exprLoop(1, number(1)), exprLoop(2, path("B", "x")), exprLoop(1000, number(1)), sharedExpr(200, number(1)), sharedExpr(200, path("B", "x"))} {
		list = append(list, impl.Unit{Name: "A", Body: defs(valDef("x", e))}, impl.Unit{Name: "A", Body: defs(valDef("x", call(path("B", "x"), e)))})
	}
	return list
}

func TestInvalidDeclsUseNothing(t *testing.T) {
	for _, d := range invalidDecls(t) {
		if got := impl.DeclUses(d); len(got) != 0 {
			t.Errorf("DeclUses(%.300v) = %v", d, got)
		}
	}
	// One more declaration would be too many, but each one by itself is as it should be.
	checkDeclUses(t, impl.Decl{Unit: impl.Unit{Params: []impl.Import{}, Body: []impl.Item{}, Face: []impl.SigItem{}}, Made: "B", Functor: "F", Args: []string{"A"}}, "A", "F")
	checkDeclUses(t, impl.Decl{Unit: impl.Unit{Name: "B", Face: items(val("x", name("A", "t")))}, Args: []string{}}, "A")
}

// checkInvalidChange checks all functions for two programs of which one is not valid.
func checkInvalidChange(t *testing.T, old, now impl.Program) {
	t.Helper()
	if impl.SameNames(old, now) || len(impl.DirtyNames(old, now)) != 0 {
		t.Errorf("SameNames = %v, DirtyNames = %v", impl.SameNames(old, now), impl.DirtyNames(old, now))
	}
	var want []int
	code, at := impl.ProgInvalid, 0
	if impl.ProgramValid(now) {
		want = indices(len(now.Decls))
		r := checkTexts(impl.FormatProgram(now))
		code, at = r.code, r.at
	}
	if got := impl.RecheckSet(old, now); !slices.Equal(got, want) {
		t.Errorf("RecheckSet = %v, want %v", got, want)
	}
	if got, where := impl.CheckAgain(old, now); got != code || where != at {
		t.Errorf("CheckAgain = %d, %d, want %d, %d", got, where, code, at)
	}
}

// invalidPrograms lists programs that are not valid, of which many are like a valid one with three declarations.
func invalidPrograms(t *testing.T, good impl.Program) []impl.Program {
	t.Helper()
	list := []impl.Program{{}, {Decls: good.Decls}, program(number(100), good.Decls...), program(exprLoop(1, number(1)), good.Decls...), program(sharedExpr(200, number(1)), good.Decls...), program(good.Main, append(slices.Clone(good.Decls), good.Decls[0])...), program(good.Main, slices.Repeat(good.Decls, 3)...), {Decls: make([]impl.Decl, 1000000), Main: number(1)}, largeProgram(1, "A"), largeProgram(2, "B")}
	for _, e := range invalidExprs() {
		list = append(list, program(e, good.Decls...))
	}
	for i, d := range invalidDecls(t) {
		p := copyProgram(good)
		p.Decls[i%3] = d
		list = append(list, p)
	}
	return list
}

// TestInvalidProgramsOnEitherSide has a program that is not valid together with one that is, with itself, and with
// another one.
func TestInvalidProgramsOnEitherSide(t *testing.T) {
	good := parsedProgram(t, linesText("$A|$F|B=F(A)|main (B.g B.z)"))
	unchecked := parsedProgram(t, linesText("$A|$F|B=F(A)|main (B.g A.z)"))
	bad := invalidPrograms(t, good)
	for i, p := range bad {
		for _, q := range []impl.Program{good, unchecked, program(number(1)), program(path("A", "x"))} {
			checkInvalidChange(t, p, q)
			checkInvalidChange(t, q, p)
		}
		checkInvalidChange(t, p, p)
		checkInvalidChange(t, p, bad[(i+1)%len(bad)])
	}
}

// TestChangesOfLimits has old programs that are just within the limits, and new ones, or the other way.
func TestChangesOfLimits(t *testing.T) {
	decls := func(count int) impl.Program {
		p := program(number(1))
		for _, n := range strings.Split("ABCDEFGHJ", "")[:count] {
			p.Decls = append(p.Decls, unitDecl(impl.Unit{Name: n}))
		}
		return p
	}
	for count := range 10 {
		p, q := decls(count), decls(count)
		if count == 9 {
			checkInvalidChange(t, p, q)
			checkInvalidChange(t, p, decls(8))
			checkInvalidChange(t, decls(8), p)
			continue
		}
		r := checkChange(t, impl.FormatProgram(p), impl.FormatProgram(q))
		if !r.same || len(r.dirty)+len(r.set) > 0 {
			t.Errorf("%d declarations: %v", count, r)
		}
		for i := range q.Decls {
			q.Decls[i].Unit.Face = items(abstract("t"))
			q.Decls[i].Unit.Body = defs(typeDef("t", num))
			r := checkChange(t, impl.FormatProgram(p), impl.FormatProgram(q))
			if !r.same || len(r.dirty) != i+1 || !slices.Equal(r.set, indices(i+1)) {
				t.Errorf("%d declarations, %d of which change: %v", count, i+1, r)
			}
		}
	}
	with := func(depth int, main string) impl.Program {
		return parsedProgram(t, "A:{t}={t="+fullText(depth, "I")+"}\nB:{x:I}={x:="+sizedNum(400)+"}\nmain "+main+"\n")
	}
	for depth := 1; depth <= 6; depth++ {
		for _, main := range []string{"1", sizedNum(399), sizedNum(400), deepNum(40), "(A.x+1)"} {
			checkChange(t, impl.FormatProgram(with(1, "1")), impl.FormatProgram(with(depth, main)))
			checkChange(t, impl.FormatProgram(with(depth, main)), impl.FormatProgram(with(1, "1")))
		}
	}
}

// TestChangesOfSharedPrograms has programs that share parts with each other, and of which many parts are the same
// memory.
func TestChangesOfSharedPrograms(t *testing.T) {
	u := parsedUnit(t, "A:{t;u=((t>t)>t);x:u}={t=I;u=((t>t)>t);x:=[(t>t)](#0 1)}")
	named := func(n string, params ...impl.Import) impl.Decl {
		return unitDecl(impl.Unit{Name: n, Params: params, Body: u.Body, Face: u.Face})
	}
	args := []string{"A", "B", "A"}
	decls := []impl.Decl{named("A"), named("F", module("P", u.Face), module("Q", u.Face), module("R", u.Face[:1])), named("B"), {Made: "J", Functor: "F", Args: args}, {Made: "L", Functor: "F", Args: args}}
	main := sum(number(1), number(2))
	p := program(choice(main, main, main), decls...)
	// The same memory on both sides.
	checkChangeResults(t, p, p, changeTexts{same: true})
	checkAgainResult(t, p, p, impl.ProgOk, 5)
	checkChangeResults(t, p, copyProgram(p), changeTexts{same: true})
	// A longer or a shorter part of the same list.
	for size := range decls {
		checkChangeResults(t, p, program(main, decls[:size]...), changeTexts{set: indices(size)})
		checkChangeResults(t, program(main, decls[:size]...), p, changeTexts{set: indices(5)})
		checkAgainResult(t, p, program(main, decls[:size]...), impl.ProgOk, size)
		checkAgainResult(t, program(main, decls[:size]...), p, impl.ProgOk, 5)
	}
	for _, test := range []struct {
		at    int
		by    impl.Decl
		dirty []string
		set   []int
		code  int
		where int
	}{
		{0, unitDecl(impl.Unit{Name: "A", Body: u.Body, Face: u.Face[:1]}), []string{"A", "J", "L"}, []int{0, 3, 4}, impl.ProgArgs, 3},
		{0, unitDecl(impl.Unit{Name: "A", Body: u.Body[:2], Face: u.Face}), nil, []int{0}, impl.ProgUnit, 0},
		{0, unitDecl(impl.Unit{Name: "A", Body: u.Body[:2], Face: u.Face[:2]}), []string{"A", "J", "L"}, []int{0, 3, 4}, impl.ProgArgs, 3},
		{1, named("F", module("P", u.Face), module("Q", u.Face), module("R", u.Face)), []string{"F", "J", "L"}, []int{1, 3, 4}, impl.ProgOk, 5},
		{1, named("F", module("P", u.Face), module("Q", u.Face)), []string{"F", "J", "L"}, []int{1, 3, 4}, impl.ProgArgs, 3},
		{3, impl.Decl{Made: "J", Functor: "F", Args: args[:2]}, []string{"J"}, []int{3}, impl.ProgArgs, 3},
		{4, impl.Decl{Made: "L", Functor: "F", Args: []string{"A", "B", "J"}}, []string{"L"}, []int{4}, impl.ProgOk, 5},
	} {
		q := program(p.Main, slices.Clone(decls)...)
		q.Decls[test.at] = test.by
		checkChange(t, impl.FormatProgram(p), impl.FormatProgram(q))
		checkChangeResults(t, p, q, changeTexts{true, test.dirty, test.set})
		checkAgainResult(t, p, q, test.code, test.where)
		checkAgainResult(t, q, p, impl.ProgOk, 5)
	}
}

func TestResultsOfCheckingAgainAreNewMemory(t *testing.T) {
	old := parsedProgram(t, memoryProgram)
	now := parsedProgram(t, strings.Replace(memoryProgram, "A:{t;", "A:{t=((I>I)>I);", 1))
	keptOld, keptNow := copyProgram(old), copyProgram(now)
	check := func(what string) {
		t.Helper()
		uses, dirty, set := impl.DeclUses(now.Decls[3]), impl.DirtyNames(old, now), impl.RecheckSet(old, now)
		all, none := impl.RecheckSet(program(number(1)), now), impl.RecheckSet(old, old)
		if strings.Join(uses, "") != "ACF" || strings.Join(dirty, "") != "ACBD" || setText(set) != "0 2 3 4" || setText(all) != "0 1 2 3 4" || len(none) != 0 || !equalPrograms(old, keptOld) || !equalPrograms(now, keptNow) {
			t.Fatalf("results of %s share memory: %v, %v, %v, %v", what, uses, dirty, set, all)
		}
	}
	check("nothing")
	for i := range now.Decls {
		spoilNames(impl.DeclUses(now.Decls[i]))
	}
	check("DeclUses")
	spoilNames(impl.DirtyNames(old, now))
	check("DirtyNames")
	for _, set := range [][]int{impl.RecheckSet(old, now), impl.RecheckSet(program(number(1)), now), impl.RecheckSet(old, old)} {
		for i := range set[:cap(set)] {
			set[:cap(set)][i] = -1
		}
	}
	check("RecheckSet")
}

func TestArgumentsOfCheckingAgainAreNotChanged(t *testing.T) {
	p := parsedProgram(t, memoryProgram)
	p.Decls = append(p.Decls, unitDecl(impl.Unit{Name: "E"}), madeDecl("E", "F", "A"), impl.Decl{})
	// Arguments out of order, with others behind them in the same memory.
	args := []string{"C", "A", "C", "Z", "B", "I"}
	kept, keptArgs := copyProgram(p), slices.Clone(args)
	for size := range len(p.Decls) + 1 {
		for count := range len(args) + 1 {
			q := impl.Program{Decls: slices.Clone(p.Decls[:size]), Main: p.Main}
			for i := range q.Decls {
				if q.Decls[i].Made != "" {
					q.Decls[i].Args = args[:count]
				}
				impl.DeclUses(q.Decls[i])
			}
			for _, pair := range [][2]impl.Program{{p, q}, {q, p}, {q, q}, {{Decls: p.Decls[:size], Main: p.Main}, q}, {q, {Decls: p.Decls[:size], Main: p.Main}}} {
				impl.SameNames(pair[0], pair[1])
				impl.DirtyNames(pair[0], pair[1])
				impl.RecheckSet(pair[0], pair[1])
				impl.CheckAgain(pair[0], pair[1])
			}
		}
	}
	if !equalPrograms(p, kept) || !slices.Equal(args, keptArgs) {
		t.Fatalf("an argument has changed: %v, %v", p, args)
	}
}
