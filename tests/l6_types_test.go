package tests

import (
	"maps"
	"math/rand"
	"slices"
	"strings"
	"testing"

	"loop.example/modlink/impl"
)

// TestRandomSubstitutions compares SubstExpr with replacements in texts.
func TestRandomSubstitutions(t *testing.T) {
	random := rand.New(rand.NewSource(21))
	for range 20000 {
		body, text := randomExpr(random, "tu", "xy", random.Intn(14), 1+random.Intn(6))
		v, valueText := randomExpr(random, "tu", "xy", random.Intn(2), 1+random.Intn(5))
		switch {
		case shapeOf(text).nodes > 400 || shapeOf(valueText).nodes > 400:
			continue
		case shapeOf(valueText).free > 0:
			checkNoSubst(t, body, v)
		default:
			checkSubst(t, body, v)
		}
	}
}

// TestRandomExpansions compares ExpandExpr with replacements in texts.
func TestRandomExpansions(t *testing.T) {
	random := rand.New(rand.NewSource(22))
	names := []string{"x", "y", "A.a", "A.x", "A.y", "B.a", "B.x", "B.y", "Z.a", "Z.x", "Z.y"}
	found := map[bool]int{}
	for range 10000 {
		e, text := randomExpr(random, "tu", "xy", random.Intn(4), 1+random.Intn(6))
		if shapeOf(text).nodes > 400 {
			continue
		}
		var list []impl.Def
		to := map[string]string{}
		for range 30 {
			d, _ := randomExpr(random, "tu", "", 0, 1+random.Intn(4))
			d = withoutNames(d)
			n := names[random.Intn(len(names))]
			mod, local, ok := strings.Cut(n, ".")
			if !ok {
				mod, local = "", n
			}
			list = append(list, def(mod, local, d))
			if to[n] == "" {
				to[n] = impl.FormatExpr(d)
			}
		}
		checkExpandText(t, list, to, e)
		_, ok := impl.ExpandExpr(list, e)
		found[ok]++
	}
	if found[true] < 500 || found[false] < 500 {
		t.Errorf("names have been found, and have not: %v", found)
	}
}

// TestRandomRuns compares evaluations of expressions without types with those of their texts.
func TestRandomRuns(t *testing.T) {
	random := rand.New(rand.NewSource(23))
	steps, runs := map[int]int{}, map[int]int{}
	for i := range 8000 {
		f := lambda(num, randomCall(random, 1, 2+random.Intn(4)))
		e := call(f, f)
		switch i % 4 {
		case 0:
			e, _ = randomExpr(random, "tu", "", 0, 2+random.Intn(5))
			e = withoutNames(e)
		case 1:
			e = call(f, randomCall(random, 0, 3+random.Intn(3)))
		}
		if !impl.ExprValid(e) {
			continue
		}
		fuel := random.Intn(60)
		runs[checkRun(t, e, fuel)]++
		for range impl.CountSteps(e, fuel) {
			steps[checkStep(t, e)]++
			e, _ = impl.StepExpr(e)
		}
		steps[checkStep(t, e)]++
		checkRun(t, e, 1)
	}
	checkCodes(t, steps, -1, impl.RunValue, impl.RunStuck, impl.RunLarge)
	checkCodes(t, runs, impl.RunValue, impl.RunStuck, impl.RunFuel, impl.RunLarge)
}

// TestTypedRuns checks promise 6: an expression with a type does not get stuck, and keeps its type. There
// are no names of values in it, but types of modules, of which the abstract ones have no values.
func TestTypedRuns(t *testing.T) {
	random := rand.New(rand.NewSource(24))
	typed, steps, codes := 0, 0, map[int]int{}
	for range 12000 {
		text := randomScopeText(random, 2+random.Intn(3))
		c := newTextChecker(text)
		clear(c.vals)
		m := newExprMaker(random, c)
		want := m.pick(m.types)
		e, ok := impl.ParseExpr(m.expr(want, nil, 1+random.Intn(6)))
		if !ok {
			continue
		}
		scope := parsedScope(t, text)
		if got, code := impl.InferExpr(scope, e); code != impl.CheckOk || impl.FormatType(got) != want {
			continue // a function on the way has a type that is too large
		}
		typed++
		code, n := checkTypedRun(t, scope, e, want)
		codes[code]++
		steps += n
	}
	if typed < 4000 || steps < 4000 {
		t.Errorf("only %d expressions have been made, which take %d steps", typed, steps)
	}
	checkCodes(t, codes, impl.RunValue)
}

// checkTypedRun performs the steps of an expression of this type. It returns the code and the number of steps.
func checkTypedRun(t *testing.T, scope []impl.Import, e impl.Expr, want string) (int, int) {
	t.Helper()
	result, code := impl.RunExpr(e, 400)
	n := impl.CountSteps(e, 400)
	if code == impl.RunStuck || code == impl.RunInvalid {
		t.Fatalf("RunExpr(%s) = %s, %d", impl.FormatExpr(e), impl.FormatExpr(result), code)
	}
	at := e
	for range n {
		next, k := impl.StepExpr(at)
		if got, inferred := impl.InferExpr(scope, next); k != -1 || inferred != impl.CheckOk || impl.FormatType(got) != want {
			t.Fatalf("%s becomes %s of the type %s, %d, want %s", impl.FormatExpr(at), impl.FormatExpr(next), impl.FormatType(got), inferred, want)
		}
		at = next
	}
	if code == impl.RunValue && (!equalExprs(at, result) || !impl.ValueExpr(result) || (result.Kind == impl.ExprNum) != (want == "I")) {
		t.Fatalf("RunExpr(%s) of the type %s = %s", impl.FormatExpr(e), want, impl.FormatExpr(result))
	}
	return code, n
}

// TestTypesOfKindsOfSteps checks promise 6 for steps whose parts have types of each kind.
func TestTypesOfKindsOfSteps(t *testing.T) {
	scope := parsedScope(t, "A:{t;u=(I>I)} B:{v=A.u;w=(A.t>A.t)}")
	for text, want := range map[string]string{
		"([A.u](#0 1) [I](#0+1))":                             "I",
		"([B.v]#0 [I]7)":                                      "(I>I)",
		"([B.w]#0 [A.t]#0)":                                   "(A.t>A.t)",
		"[A.t]([B.w](#0 #1) [A.t]#0)":                         "(A.t>A.t)",
		"?<(50+50),[I]1,?<1,[I]#0,[I]2>>":                     "(I>I)",
		"(?<0,[I]1,[I](#0+#0)> (99+1))":                       "I",
		"([(I>(I>I))]((#0 1) 2) [I][I](#1+#0))":               "I",
		"(([(I>I)][I](#1 (#1 #0)) ([I][I](#1+#0) 98)) (0+3))": "I",
	} {
		e := parsedExpr(t, text)
		got, code := impl.InferExpr(scope, e)
		if impl.FormatType(got) != want {
			t.Errorf("InferExpr(%s) = %s, %d", text, impl.FormatType(got), code)
		}
		if code, _ := checkTypedRun(t, scope, e, want); code != impl.RunValue {
			t.Errorf("RunExpr(%s) has the code %d", text, code)
		}
	}
}

// TestExpandedExprsKeepTheirTypes puts values that have the types of the names in a scope in their places.
func TestExpandedExprsKeepTheirTypes(t *testing.T) {
	random := rand.New(rand.NewSource(25))
	checked := 0
	for range 6000 {
		const text = "A:{t=I;u=(t>t);x:t;f:u;g:(u>t)} B:{v=A.u;y:v;h:(v>(A.t>I))}"
		scope, c := parsedScope(t, text), newTextChecker(text)
		m, plain := newExprMaker(random, c), newExprMaker(random, textChecker{types: c.types})
		var list []impl.Def
		for _, n := range slices.Sorted(maps.Keys(c.vals)) {
			resolved, _ := c.resolve(c.vals[n])
			if d, ok := impl.ParseExpr(plain.expr(resolved, nil, 1+random.Intn(3))); ok {
				list = append(list, def(n[:1], n[2:], d))
			}
		}
		want := m.pick(m.types)
		e, ok := impl.ParseExpr(m.expr(want, nil, 1+random.Intn(4)))
		if !ok {
			continue
		}
		if _, code := impl.InferExpr(scope, e); code != impl.CheckOk {
			continue
		}
		if expanded, ok := impl.ExpandExpr(list, e); ok {
			got, code := impl.InferExpr(scope, expanded)
			if code != impl.CheckOk || impl.FormatType(got) != want {
				t.Fatalf("%s of the type %s becomes %s of the type %s, %d", impl.FormatExpr(e), want, impl.FormatExpr(expanded), impl.FormatType(got), code)
			}
			checkTypedRun(t, scope, expanded, want)
			checked++
		}
	}
	if checked < 2000 {
		t.Errorf("only %d expressions have been expanded", checked)
	}
}

func TestResultsOfEvaluationAreNewMemory(t *testing.T) {
	const large = "[((I>I)>I)]([((I>I)>I)](#0 [I]#0)+3)"
	stuck, value, body := parsedExpr(t, "(("+large+"+1)+("+large+" 1))"), parsedExpr(t, large), parsedExpr(t, "?<#0,[A.t](#1 #0),(#0+"+large+")>")
	list := []impl.Def{def("", "x", value), def("A", "x", value)}
	waiting := call(call(lambda(num, lambda(num, body)), value), value)
	for i, f := range []func() impl.Expr{
		func() impl.Expr { e, _ := impl.SubstExpr(body, value); return e },
		func() impl.Expr { e, _ := impl.SubstExpr(variable(0), value); return e },
		func() impl.Expr { e, _ := impl.SubstExpr(value, value); return e },
		func() impl.Expr { e, _ := impl.StepExpr(stuck); return e },
		func() impl.Expr { e, _ := impl.StepExpr(value); return e },
		func() impl.Expr { e, _ := impl.StepExpr(waiting); return e },
		func() impl.Expr { e, _ := impl.RunExpr(stuck, 0); return e },
		func() impl.Expr { e, _ := impl.RunExpr(value, 400); return e },
		func() impl.Expr { e, _ := impl.RunExpr(waiting, 400); return e },
		func() impl.Expr { e, _ := impl.ExpandExpr(list, sum(path("A", "x"), path("", "x"))); return e },
		func() impl.Expr { e, _ := impl.ExpandExpr(nil, body); return e },
		func() impl.Expr { e, _ := impl.ExpandExpr(list, path("", "x")); return e },
	} {
		kept := []impl.Expr{copyExpr(stuck), copyExpr(value), copyExpr(body), copyExpr(waiting)}
		first, second := f(), f()
		want := impl.FormatExpr(second)
		spoilExpr(first)
		if want == "" || impl.FormatExpr(second) != want || !slices.EqualFunc([]impl.Expr{stuck, value, body, waiting}, kept, equalExprs) {
			t.Errorf("%d: results share memory", i)
		}
		for j, kid := range second.Kids {
			rest := copyExpr(impl.Expr{Kids: second.Kids[j+1:]})
			spoilExpr(kid)
			if !equalExprs(impl.Expr{Kids: second.Kids[j+1:]}, rest) {
				t.Errorf("%d: parts of one result share memory", i)
			}
		}
	}
}

func TestRunArgumentsAreNotChanged(t *testing.T) {
	backing := []impl.Expr{number(1), lambda(fun(num, name("", "t")), call(variable(0), variable(0))), number(2), lambda(num, number(3)), path("A", "x"), variable(1)}
	kept := copyExpr(impl.Expr{Kids: backing})
	var list []impl.Def
	for _, e := range backing {
		list = append(list, def("A", "x", e))
	}
	for from := range backing {
		for size := range len(backing) - from {
			for kind := range 9 {
				e := impl.Expr{Kind: kind, Kids: backing[from : from+size]}
				impl.PureExpr(e)
				impl.ValueExpr(e)
				impl.SubstExpr(e, backing[size])
				impl.SubstExpr(backing[size], e)
				impl.SubstExpr(lambda(num, e), e)
				impl.StepExpr(e)
				impl.RunExpr(e, 400)
				impl.CountSteps(e, 400)
				impl.ExpandExpr(list[:size], e)
				impl.ExpandExpr([]impl.Def{def("A", "x", e)}, backing[size])
				if !equalExprs(impl.Expr{Kids: backing}, kept) {
					t.Fatalf("an argument has changed: %v", backing)
				}
			}
		}
	}
	for i, d := range list {
		if d.Mod != "A" || d.Name != "x" || !equalExprs(d.Expr, backing[i]) {
			t.Fatalf("a definition has changed: %v", list)
		}
	}
}
