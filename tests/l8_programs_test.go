package tests

import (
	"math/rand"
	"slices"
	"strconv"
	"strings"
	"testing"

	"loop.example/modlink/impl"
)

// someUnit is a unit that uses all its parts, and someFunctor a functor with two parameters.
const (
	someUnit    = "A:{t;z:t;s:(t>t)}={t=I;z:=0;s:=[t](#0+1)}"
	someFunctor = "F(P:{t;x:t})(Q:{t=P.t}):{u;x:P.t}={u=I;x:=[u](P.x #0)}"
)

func TestProgramsAndTheirTexts(t *testing.T) {
	unit, functor := unitDecl(parsedUnit(t, someUnit)), unitDecl(parsedUnit(t, someFunctor))
	empty := unitDecl(impl.Unit{Name: "C"})
	for _, test := range []struct {
		text    string
		program impl.Program
	}{
		{"main 1\n", program(number(1))},
		{"main (A.x+y)\n", program(sum(path("A", "x"), path("", "y")))},
		{"main #12\n", program(variable(12))},
		{"main [A.t]#0\n", program(lambda(name("A", "t"), variable(0)))},
		{"C:{}={}\nmain 1\n", program(number(1), empty)},
		{"B=F(A)\nmain 1\n", program(number(1), madeDecl("B", "F", "A"))},
		{"B=F(A)(C)\nmain 1\n", program(number(1), madeDecl("B", "F", "A", "C"))},
		{"B=F(A)(C)(A)\nmain 1\n", program(number(1), madeDecl("B", "F", "A", "C", "A"))},
		// Names need not exist, and a declaration may mention itself or what comes behind it.
		{"B=B(B)\nmain B.x\n", program(path("B", "x"), madeDecl("B", "B", "B"))},
		{"B=F(C)\nC:{}={}\nmain 1\n", program(number(1), madeDecl("B", "F", "C"), empty)},
		{someUnit + "\n" + someFunctor + "\nB=F(A)(A)\nC=F(B)(A)\nmain (A.s B.z)\n", program(call(path("A", "s"), path("B", "z")), unit, functor, madeDecl("B", "F", "A", "A"), madeDecl("C", "F", "B", "A"))},
		{"C=F(B)(A)\n" + someFunctor + "\nB=F(A)(A)\n" + someUnit + "\nmain 99\n", program(number(99), madeDecl("C", "F", "B", "A"), functor, madeDecl("B", "F", "A", "A"), unit)},
		// Parameters may have the names of declarations.
		{"F(A:{}):{}={}\nA(F:{}):{}={}\nmain 1\n", program(number(1), unitDecl(impl.Unit{Name: "F", Params: modules(module("A", nil))}), unitDecl(impl.Unit{Name: "A", Params: modules(module("F", nil))}))},
	} {
		checkProgramText(t, test.program, test.text)
	}
}

// checkProgramText checks that a program is valid, has this text, and is read back from it.
func checkProgramText(t *testing.T, p impl.Program, text string) {
	t.Helper()
	if !impl.ProgramValid(p) || !isProgramText(text) {
		t.Errorf("%q is not valid", text)
	}
	if got := impl.FormatProgram(p); got != text {
		t.Errorf("FormatProgram = %q, want %q", got, text)
	}
	if got, ok := impl.ParseProgram(text); !ok || !equalPrograms(got, p) {
		t.Errorf("ParseProgram(%q) = %v, %v", text, got, ok)
	}
}

// checkNoProgram checks that ParseProgram rejects a text.
func checkNoProgram(t *testing.T, text string) {
	t.Helper()
	if got, ok := impl.ParseProgram(text); ok || !zeroProgram(got) {
		t.Errorf("ParseProgram(%.80q) = %v, %v", text, got, ok)
	}
}

// checkInvalidProgram checks that no function accepts a program.
func checkInvalidProgram(t *testing.T, p impl.Program) {
	t.Helper()
	if impl.ProgramValid(p) || impl.FormatProgram(p) != "" {
		t.Errorf("ProgramValid is %v, FormatProgram is %q", impl.ProgramValid(p), impl.FormatProgram(p))
	}
	if code, at := impl.CheckProgram(p); code != impl.ProgInvalid || at != 0 {
		t.Errorf("CheckProgram = %d, %d", code, at)
	}
	if scope, code := impl.ProgramScope(p); code != impl.ProgInvalid || len(scope) != 0 {
		t.Errorf("ProgramScope = %v, %d", scope, code)
	}
	if typ, code := impl.MainType(p); code != impl.ProgInvalid || !zeroType(typ) {
		t.Errorf("MainType = %v, %d", typ, code)
	}
	checkNotLinked(t, p, impl.LinkInvalid)
	if !impl.ProgramSame(p, p) {
		t.Error("a program is not the same as itself")
	}
}

func TestNamesInPrograms(t *testing.T) {
	letters := strings.Split("ABCDEFGHJKLMNOPQRSTUVWXYZ", "")
	for i, n := range letters {
		m, k := letters[(i+1)%len(letters)], letters[(i+9)%len(letters)]
		checkProgramText(t, program(number(1), madeDecl(n, m, k)), n+"="+m+"("+k+")\nmain 1\n")
		checkProgramText(t, program(number(1), madeDecl(m, k, n, m, k)), m+"="+k+"("+n+")("+m+")("+k+")\nmain 1\n")
		checkProgramText(t, program(path(n, "x"), unitDecl(impl.Unit{Name: n}), madeDecl(m, n, n)), n+":{}={}\n"+m+"="+n+"("+n+")\nmain "+n+".x\n")
		// Each pair of declarations that define the same name.
		unit, functor, made := unitDecl(impl.Unit{Name: n}), unitDecl(impl.Unit{Name: n, Params: modules(module(m, nil))}), madeDecl(n, m, k)
		texts := []string{n + ":{}={}\n", n + "(" + m + ":{}):{}={}\n", n + "=" + m + "(" + k + ")\n"}
		for a, first := range []impl.Decl{unit, functor, made} {
			for b, second := range []impl.Decl{unit, functor, made} {
				checkInvalidProgram(t, program(number(1), first, second))
				checkNoProgram(t, texts[a]+texts[b]+"main 1\n")
				checkInvalidProgram(t, program(number(1), first, unitDecl(impl.Unit{Name: m}), madeDecl(k, k, k), second))
				checkNoProgram(t, texts[a]+m+":{}={}\n"+k+"="+k+"("+k+")\n"+texts[b]+"main 1\n")
			}
		}
	}
	for _, n := range []string{"", "I", "a", "z", "AA", "A ", " A", "A.", "@", "[", "1", "É", "A\x00", "\xff", "\n", strings.Repeat("A", 1000000)} {
		for _, d := range []impl.Decl{unitDecl(impl.Unit{Name: n}), madeDecl(n, "F", "A"), madeDecl("B", n, "A"), madeDecl("B", "F", n), madeDecl("B", "F", "A", n), madeDecl("B", "F", n, "A"), madeDecl("B", "F", "A", "C", n), madeDecl(n, n, n)} {
			checkInvalidProgram(t, program(number(1), d))
			checkInvalidProgram(t, program(number(1), unitDecl(impl.Unit{Name: "C"}), d))
		}
		for _, line := range []string{"*:{}={}", "*=F(A)", "B=*(A)", "B=F(*)", "B=F(A)(*)", "B=F(*)(A)", "B=F(A)(C)(*)", "*=*(*)"} {
			checkNoProgram(t, strings.ReplaceAll(line, "*", n)+"\nmain 1\n")
		}
	}
}

func TestDeclsLimit(t *testing.T) {
	letters := strings.Split("ZYXWVUTSRQPO", "")
	for count := 0; count <= len(letters); count++ {
		for _, kinds := range []string{"u", "f", "m", "ufm", "muf"} {
			p, text := program(number(1)), ""
			for i, n := range letters[:count] {
				switch kinds[i%len(kinds)] {
				case 'u':
					p.Decls, text = append(p.Decls, unitDecl(impl.Unit{Name: n})), text+n+":{}={}\n"
				case 'f':
					p.Decls, text = append(p.Decls, unitDecl(impl.Unit{Name: n, Params: modules(module("A", nil))})), text+n+"(A:{}):{}={}\n"
				case 'm':
					p.Decls, text = append(p.Decls, madeDecl(n, "A", "B")), text+n+"=A(B)\n"
				}
			}
			text += "main 1\n"
			if count <= 8 {
				checkProgramText(t, p, text)
				continue
			}
			checkInvalidProgram(t, p)
			checkNoProgram(t, text)
			if isProgramText(text) {
				t.Errorf("isProgramText(%q) is true", text)
			}
		}
	}
	checkInvalidProgram(t, impl.Program{Decls: make([]impl.Decl, 1000000), Main: number(1)})
}

func TestArgsLimit(t *testing.T) {
	for count := 0; count <= 20; count++ {
		for _, arg := range []string{"A", "B", "F", "Z"} {
			p := program(number(1), madeDecl("B", "F", slices.Repeat([]string{arg}, count)...))
			text := "B=F" + strings.Repeat("("+arg+")", count) + "\nmain 1\n"
			if 1 <= count && count <= 3 {
				checkProgramText(t, p, text)
			} else {
				checkInvalidProgram(t, p)
				checkNoProgram(t, text)
			}
		}
	}
	checkInvalidProgram(t, program(number(1), madeDecl("B", "F", make([]string, 1000000)...)))
	checkInvalidProgram(t, program(number(1), madeDecl("B", "F", slices.Repeat([]string{"A"}, 1000000)...)))
}

// TestLimitsInPrograms has units and expressions that are within the limits, or one past them.
func TestLimitsInPrograms(t *testing.T) {
	for count := 398; count <= 402; count++ {
		_, text := sized(count, 2)
		checkMainPlaces(t, text, count <= 400)
		checkUnitPlaces(t, "C:{}={x:=1;y:="+text+"}", count <= 400)
	}
	for depth := 38; depth <= 42; depth++ {
		checkMainPlaces(t, deepText(depth), depth <= 40)
		checkUnitPlaces(t, "C:{}={x:="+deepText(depth)+"}", depth <= 40)
	}
	for _, n := range []int{0, 12, 13, 98, 99, 100} {
		checkMainPlaces(t, "#"+strconv.Itoa(n), n <= 12)
		checkMainPlaces(t, strconv.Itoa(n), n <= 99)
		checkUnitPlaces(t, "C:{}={x:="+strings.Repeat("[I]", 14)+"#"+strconv.Itoa(n)+"}", n <= 12)
		checkUnitPlaces(t, "C:{}={x:="+strconv.Itoa(n)+"}", n <= 99)
	}
	for count := 2; count <= 4; count++ {
		params := strings.Join(strings.Split("(P:{t}).(Q:{t}).(R:{t}).(S:{t})", ".")[:count], "")
		checkUnitPlaces(t, "C"+params+":{}={}", count <= 3)
	}
	for count := 7; count <= 11; count++ {
		var vals, lets []string
		for _, n := range strings.Split("abcdefghijk", "")[:count] {
			vals, lets = append(vals, n+":I"), append(lets, n+":=1")
		}
		checkUnitPlaces(t, "C:{"+strings.Join(vals, ";")+"}={}", count <= 8)
		checkUnitPlaces(t, "C:{}={"+strings.Join(lets, ";")+"}", count <= 10)
	}
	for depth := 7; depth <= 9; depth++ {
		checkMainPlaces(t, "["+chainText(depth)+"]1", depth <= 8)
		checkUnitPlaces(t, "C:{x:"+chainText(depth)+"}={}", depth <= 8)
	}
}

// checkUnitPlaces checks a unit in each place among others.
func checkUnitPlaces(t *testing.T, unit string, want bool) {
	t.Helper()
	for _, text := range []string{"*\nmain 1\n", "B=F(C)\n*\nmain 1\n", "*\nB=F(C)\nmain 1\n", someUnit + "\n" + someFunctor + "\nB=F(A)(A)\n*\nD=F(C)(B)\nmain A.x\n"} {
		if text = strings.Replace(text, "*", unit, 1); checkReadProgram(t, text) != want {
			t.Errorf("ParseProgram(%.200q) is %v", text, !want)
		}
	}
}

// checkMainPlaces checks an expression behind several lists of declarations.
func checkMainPlaces(t *testing.T, main string, want bool) {
	t.Helper()
	for _, decls := range []string{"", "B=F(C)\n", someUnit + "\n" + someFunctor + "\nB=F(A)(A)\n"} {
		if checkReadProgram(t, decls+"main "+main+"\n") != want {
			t.Errorf("ParseProgram with the expression %.200s is %v", main, !want)
		}
	}
}

// checkReadProgram compares ParseProgram with a reading by splitting, and reports whether the text is that of a program.
func checkReadProgram(t *testing.T, text string) bool {
	t.Helper()
	got, ok := impl.ParseProgram(text)
	if want := isProgramText(text); ok != want || ok && impl.FormatProgram(got) != text || !ok && !zeroProgram(got) {
		t.Errorf("ParseProgram(%.300q) = %v, %v", text, got, ok)
	}
	return ok
}

func TestTextsThatAreNoProgram(t *testing.T) {
	for _, text := range []string{
		"", "\n", " ", "main", "main\n", "main \n", "main 1", "main  1\n", "main 1 \n", " main 1\n", "main 1\n\n", "\nmain 1\n", "main 1\nmain 1\n", "main 1\nC:{}={}\n", "main 1\r\n", "main 1\n ", "main\t1\n", "main1\n", "Main 1\n", "main:1\n", "main=1\n", "mai 1\n", "maine 1\n", "1\n", "main 01\n", "main 100\n", "main #13\n", "main (1 2\n", "main {}\n", "main I\n", "main C\n", "main C:{}={}\n", "main main 1\n", "main 1;\n", "main 1\x00\n",
		"C:{}={}", "C:{}={}\n", "C:{}={}main 1\n", "C:{}={} main 1\n", "C:{}={};main 1\n", "C:{}={}\nmain 1", "C:{}={}\nmain\n", "C:{}={}\n\nmain 1\n", "\nC:{}={}\nmain 1\n", "C:{}={}\nmain 1\n\n", " C:{}={}\nmain 1\n", "C:{}={} \nmain 1\n", "C:{}={}\r\nmain 1\n", "C:{}={}\n main 1\n", "C:{}={}\nD:{}={}main 1\n", "C:{}={}D:{}={}\nmain 1\n", "C:{}={}\nC:{}={}\nmain 1\n", "C:{}=\n{}\nmain 1\n", "C:{}={}\nmain (1\n2)\n", "C:{}={x:=1}\nmain 1\nC:{}={}\n", "c:{}={}\nmain 1\n", "I:{}={}\nmain 1\n", "C:{}\nmain 1\n", "C\nmain 1\n", "C:{}={x:=y}\nmain 1\n", "C:{x:t}={}\nmain 1\n", "C:{}={x:=#0}\nmain 1\n", "F():{}={}\nmain 1\n", "F(P:{})(P:{}):{}={}\nmain 1\n", "unit C:{}={}\nmain 1\n",
		"B=\nmain 1\n", "B=F\nmain 1\n", "B=F()\nmain 1\n", "B=F(\nmain 1\n", "B=F(A\nmain 1\n", "B=FA)\nmain 1\n", "B=FA\nmain 1\n", "B=F(A))\nmain 1\n", "B=F((A))\nmain 1\n", "B=F(A)(\nmain 1\n", "B=F(A)()\nmain 1\n", "B=F(A)(A)(A)(A)\nmain 1\n", "B=F(A)(A)(A)(\nmain 1\n", "B=F(A,C)\nmain 1\n", "B=F(A;C)\nmain 1\n", "B=F(A C)\nmain 1\n", "B=F(AC)\nmain 1\n", "B=F (A)\nmain 1\n", "B =F(A)\nmain 1\n", "B= F(A)\nmain 1\n", "B=F( A)\nmain 1\n", "B=F(A )\nmain 1\n", "B=F(A) \nmain 1\n", " B=F(A)\nmain 1\n", "B=F(A) (C)\nmain 1\n", "B==F(A)\nmain 1\n", "B:=F(A)\nmain 1\n", "B:F(A)\nmain 1\n", "=F(A)\nmain 1\n", "B=(A)\nmain 1\n", "B(A)\nmain 1\n", "B(A)=F\nmain 1\n", "F(A)=B\nmain 1\n", "b=F(A)\nmain 1\n", "B=f(A)\nmain 1\n", "B=F(a)\nmain 1\n", "I=F(A)\nmain 1\n", "B=I(A)\nmain 1\n", "B=F(I)\nmain 1\n", "BB=F(A)\nmain 1\n", "B=FF(A)\nmain 1\n", "B.x=F(A)\nmain 1\n", "B=F.x(A)\nmain 1\n", "B=F(A.x)\nmain 1\n", "B=F[A]\nmain 1\n", "B=F(A)={}\nmain 1\n", "B=F(A):{}={}\nmain 1\n", "B:{}=F(A)\nmain 1\n", "B=F(A:{})\nmain 1\n", "B=F(A)", "B=F(A)\n", "B=F(A)main 1\n", "B=F(A)\nmain 1", "B=F(A)\nB=F(A)\nmain 1\n", "B=F(A)\nB:{}={}\nmain 1\n", "B={}\nmain 1\n", "make B=F(A)\nmain 1\n",
		strings.Repeat("\n", 1000000), strings.Repeat("main 1\n", 1000000), strings.Repeat("C:{}={}\n", 1000000), strings.Repeat("B=F(A)\n", 1000000), strings.Repeat("B", 1000000), "B=F" + strings.Repeat("(A)", 1000000) + "\nmain 1\n", "main " + strings.Repeat("(", 1000000) + "\n", "main " + strings.Repeat("1", 1000000) + "\n", "main " + strings.Repeat("[I]", 1000000) + "\n", "main 1" + strings.Repeat("\n", 1000000), "C:{}={}\nmain 1\n" + strings.Repeat(" ", 1000000),
	} {
		if len(text) < 1000 && isProgramText(text) {
			t.Errorf("isProgramText(%q) is true", text)
		}
		checkNoProgram(t, text)
	}
}

// TestAllShortProgramTexts compares ParseProgram, for each text of a few tokens, with a reading by splitting.
func TestAllShortProgramTexts(t *testing.T) {
	accepted := 0
	for tokens, most := range map[string]int{"B = F ( A ) |main_1|": 8, "A:{}={} B=F(A) | main_ 1 main_A.x|": 6, "A:{}={}| A(B:{}):{}={}| B=A(C)| C=B(A)(A)| main_1|": 6, "main _ 1 + ( ) |": 6, "B=F (A) (C) :{}={} | main_1|": 7} {
		list := strings.Split(strings.NewReplacer("_", "\u00a0", "|", "\n").Replace(tokens), " ")
		for i := range list {
			list[i] = strings.ReplaceAll(list[i], "\u00a0", " ")
		}
		eachText(list, most, func(text string) {
			if checkReadProgram(t, text) {
				accepted++
			}
		})
	}
	if accepted < 50 {
		t.Errorf("only %d texts are accepted", accepted)
	}
}

// TestRandomProgramTexts changes texts of random programs, and compares ParseProgram with a reading by splitting.
func TestRandomProgramTexts(t *testing.T) {
	random := rand.New(rand.NewSource(31))
	accepted, rejected := 0, 0
	for range 1500 {
		text := randomProgram(random, 4)
		if !checkReadProgram(t, text) {
			t.Fatalf("ParseProgram rejects %q", text)
		}
		for range 5 {
			if checkReadProgram(t, changedBytes(random, text, "{};=:(>)[]01#ItuABFPQ. +?<,\nmain")) {
				accepted++
			} else {
				rejected++
			}
		}
	}
	if accepted < 1000 || rejected < 1000 {
		t.Errorf("%d texts are accepted, %d are not", accepted, rejected)
	}
}

// invalidUnits lists units that are not valid, some of which contain themselves.
func invalidUnits(t *testing.T) []impl.Unit {
	t.Helper()
	good := parsedUnit(t, someFunctor)
	list := []impl.Unit{{}, {Name: "I"}, {Name: "c"}, {Name: "C", Params: modules(module("C", nil))}, {Name: "C", Params: modules(module("P", nil), module("P", nil))}, {Name: "C", Params: make([]impl.Import, 4)}, {Params: good.Params, Body: good.Body, Face: good.Face}}
	for _, s := range invalidSigs() {
		u := copyUnit(good)
		u.Params[1].Sig = s
		list = append(list, u, impl.Unit{Name: "C", Face: s}, impl.Unit{Name: "F", Params: good.Params, Body: good.Body, Face: s})
	}
	for _, x := range invalidDefs() {
		list = append(list, impl.Unit{Name: "C", Body: defs(x)}, impl.Unit{Name: "F", Params: good.Params, Body: append(defs(x), good.Body...), Face: good.Face})
	}
	return list
}

func TestProgramsWithInvalidUnits(t *testing.T) {
	good := parsedProgram(t, someUnit+"\n"+someFunctor+"\nB=F(A)(A)\nmain 1\n")
	for _, u := range invalidUnits(t) {
		checkInvalidProgram(t, program(number(1), unitDecl(u)))
		for i := range good.Decls {
			p := impl.Program{Decls: slices.Clone(good.Decls), Main: good.Main}
			p.Decls[i] = unitDecl(u)
			checkInvalidProgram(t, p)
		}
	}
	for _, e := range append(invalidExprs(), impl.Expr{}, deep(41), exprLoop(1, number(1)), exprLoop(1000, number(1)), sharedExpr(200, number(1))) {
		checkInvalidProgram(t, program(e))
		checkInvalidProgram(t, impl.Program{Decls: good.Decls, Main: e})
	}
	checkInvalidProgram(t, impl.Program{})
	checkInvalidProgram(t, impl.Program{Decls: good.Decls})
}

// TestDeclsOfTwoKinds has declarations of which some parts are missing, or that have those of both kinds.
func TestDeclsOfTwoKinds(t *testing.T) {
	unit, made := unitDecl(parsedUnit(t, someUnit)), madeDecl("B", "F", "A", "C")
	for _, d := range []impl.Decl{
		{}, {Made: "B"}, {Functor: "F"}, {Args: []string{"A"}}, {Made: "B", Functor: "F"}, {Made: "B", Args: []string{"A"}}, {Functor: "F", Args: []string{"A"}}, {Args: []string{""}}, {Made: "B", Functor: "F", Args: []string{""}}, {Made: "B", Functor: "F", Args: []string{"A", ""}},
		{Unit: unit.Unit, Made: "B"}, {Unit: unit.Unit, Functor: "F"}, {Unit: unit.Unit, Args: []string{"C"}}, {Unit: unit.Unit, Args: []string{""}}, {Unit: unit.Unit, Made: "A", Functor: "F", Args: []string{"C"}}, {Unit: unit.Unit, Made: "B", Functor: "F", Args: []string{"C"}}, {Unit: unit.Unit, Made: "anything"},
	} {
		checkInvalidProgram(t, program(number(1), d))
		checkInvalidProgram(t, program(number(1), unitDecl(impl.Unit{Name: "Z"}), d))
	}
	for _, u := range []impl.Unit{{Name: "Z"}, {Name: "B"}, {Name: "z"}, {Params: modules(module("P", nil))}, {Params: make([]impl.Import, 1000000)}, {Body: defs(impl.Item{})}, {Body: defs(typeDef("t", num))}, {Body: make([]impl.Item, 1000000)}, {Face: items(abstract("t"))}, {Face: items(impl.SigItem{})}, {Face: items(val("x", loop(1, num)))}, {Body: defs(valDef("x", exprLoop(1, number(1))))}} {
		d := made
		d.Unit = u
		checkInvalidProgram(t, program(number(1), d))
	}
	made.Unit = impl.Unit{Params: []impl.Import{}, Body: []impl.Item{}, Face: []impl.SigItem{}}
	checkProgramText(t, program(number(1), made), "B=F(A)(C)\nmain 1\n")
	unit.Args = []string{}
	checkProgramText(t, program(number(1), unit), someUnit+"\nmain 1\n")
	p := impl.Program{Decls: []impl.Decl{}, Main: impl.Expr{Kind: impl.ExprNum, N: 1, Kids: []impl.Expr{}}}
	checkProgramText(t, p, "main 1\n")
	if !impl.ProgramSame(p, program(number(1))) || !impl.ProgramSame(program(number(1), made), program(number(1), madeDecl("B", "F", "A", "C"))) || !impl.ProgramSame(program(number(1), unit), program(number(1), unitDecl(unit.Unit))) {
		t.Error("an empty slice is not the same as none")
	}
}

func TestProgramSame(t *testing.T) {
	unit := parsedUnit(t, someUnit)
	one, functor := unitDecl(unit), unitDecl(parsedUnit(t, someFunctor))
	list := []impl.Program{{}, program(number(1)), program(number(2)), program(path("A", "x")), program(sum(number(1), number(2))), program(exprLoop(1, number(1)))}
	decls := []impl.Decl{{}, one, functor, {Made: "B"}, {Functor: "B"}, {Made: "B", Functor: "B"}, {Args: []string{""}}, {Args: []string{"B"}}, {Args: []string{"", ""}}, madeDecl("B", "F", "A"), madeDecl("C", "F", "A"), madeDecl("B", "G", "A"), madeDecl("B", "F", "B"), madeDecl("B", "F", "A", "A"), madeDecl("B", "F", "A", "B"), madeDecl("B", "F", "B", "A"), madeDecl("B", "F", "A", "B", "A", "B"), {Unit: unit, Made: "B"}, {Unit: unit, Functor: "B"}, {Unit: unit, Args: []string{"B"}}}
	for _, u := range []impl.Unit{{Name: "A"}, {Name: "B"}, {Name: "A", Params: unit.Params, Face: unit.Face}, {Name: "A", Params: unit.Params, Body: unit.Body}, {Name: "C", Params: unit.Params, Body: unit.Body, Face: unit.Face}, {Face: items(val("x", loop(2, num)))}} {
		decls = append(decls, unitDecl(u))
	}
	for i, d := range decls {
		list = append(list, program(number(1), d), program(impl.Expr{}, d), program(number(1), d, decls[0]), program(number(1), d, decls[1]))
		if i > 1 {
			list = append(list, program(number(1), decls[0], d), program(number(1), decls[1], d))
		}
	}
	for i, a := range list {
		for j, b := range list {
			if same := impl.ProgramSame(a, b); same != (i == j) {
				t.Errorf("ProgramSame(%.300v, %.300v) = %v", i, j, same)
			}
		}
	}
}

// TestSmallChangesOfPrograms changes each byte of the text of a program, and compares the programs.
func TestSmallChangesOfPrograms(t *testing.T) {
	text := someUnit + "\n" + someFunctor + "\nB=F(A)(A)\nC=F(B)(A)\nmain (A.s [A.t](B.x+1))\n"
	p, changed := parsedProgram(t, text), 0
	for i := range text {
		for _, c := range "abABCDFPQtuxyI012+ " {
			q, ok := impl.ParseProgram(text[:i] + string(c) + text[i+1:])
			if !ok {
				continue
			}
			changed++
			if same := text[i] == byte(c); impl.ProgramSame(p, q) != same || impl.ProgramSame(q, p) != same {
				t.Errorf("ProgramSame(%q, %q) is %v", text, impl.FormatProgram(q), !same)
			}
		}
	}
	if changed < 150 {
		t.Errorf("only %d changes are programs", changed)
	}
}

// largeProgram has very many declarations, with very many parts that are the same memory. Only one expression
// and one argument in it depend on leaf.
func largeProgram(leaf int, arg string) impl.Program {
	x, e := chain(1000, true, num), call(lambda(chain(1000, false, num), deep(1000)), number(leaf))
	sig := slices.Repeat(items(val("x", x)), 20000)
	u := impl.Unit{Name: "C", Params: slices.Repeat(modules(module("P", sig)), 20000), Body: slices.Repeat(defs(impl.Item{Kind: 2, Type: x, Expr: e}), 20000), Face: sig}
	d := impl.Decl{Unit: u, Made: "B", Functor: "F", Args: append(slices.Repeat([]string{"A"}, 20000), arg)}
	return impl.Program{Decls: slices.Repeat([]impl.Decl{d}, 20000), Main: e}
}

func TestProgramSameOfLargePrograms(t *testing.T) {
	a := largeProgram(1, "A")
	if !impl.ProgramSame(a, largeProgram(1, "A")) || impl.ProgramSame(a, largeProgram(2, "A")) || impl.ProgramSame(a, largeProgram(1, "B")) {
		t.Error("ProgramSame is wrong for large programs")
	}
	checkInvalidProgram(t, a)
	checkInvalidProgram(t, impl.Program{Decls: a.Decls[:1], Main: number(1)})
	loops := func(x impl.Type, e impl.Expr, n string) impl.Program {
		sig := items(alias("t", x), val("x", fun(x, x)))
		u := impl.Unit{Name: n, Params: modules(module("P", sig), module("Q", sig)), Body: defs(typeDef("t", x), valDef("x", e), valDef("y", lambda(x, e))), Face: sig}
		return program(e, unitDecl(u), unitDecl(impl.Unit{Name: "D", Face: sig}), madeDecl("B", "C", "D"))
	}
	b := loops(loop(3, num), exprLoop(2, number(1)), "C")
	checkInvalidProgram(t, b)
	if !impl.ProgramSame(b, loops(loop(4, num), exprLoop(5, number(1)), "C")) || impl.ProgramSame(b, loops(loop(3, num), exprLoop(2, number(2)), "C")) || impl.ProgramSame(b, loops(loop(3, name("", "t")), exprLoop(2, number(1)), "C")) || impl.ProgramSame(b, loops(loop(3, num), exprLoop(2, number(1)), "E")) {
		t.Error("ProgramSame is wrong for programs that contain parts of themselves")
	}
	shared := program(sharedExpr(200, number(1)), unitDecl(impl.Unit{Name: "C", Face: items(val("x", sharedType(200, num)))}), unitDecl(impl.Unit{Name: "D", Body: defs(valDef("x", sharedExpr(200, number(1))))}))
	checkInvalidProgram(t, shared)
	if impl.ProgramSame(shared, b) || !impl.ProgramSame(shared, program(sharedExpr(200, number(1)), unitDecl(impl.Unit{Name: "C", Face: items(val("x", sharedType(200, num)))}), unitDecl(impl.Unit{Name: "D", Body: defs(valDef("x", sharedExpr(200, number(1))))}))) {
		t.Error("ProgramSame is wrong for programs that share parts")
	}
}
