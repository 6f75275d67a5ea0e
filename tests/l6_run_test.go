package tests

import (
	"slices"
	"strconv"
	"strings"
	"testing"

	"loop.example/modlink/impl"
)

// endless calls itself again and again.
const endless = "([I](#0 #0) [I](#0 #0))"

// growing is a sum with one more level after each step.
const growing = "([I]((#0 #0)+1) [I]((#0 #0)+1))"

func checkNotPure(t *testing.T, e impl.Expr) {
	t.Helper()
	if impl.PureExpr(e) || impl.ValueExpr(e) {
		t.Errorf("PureExpr(%.80s) = %v, ValueExpr = %v", impl.FormatExpr(e), impl.PureExpr(e), impl.ValueExpr(e))
	}
	if got, code := impl.StepExpr(e); code != impl.RunInvalid || !zeroExpr(got) {
		t.Errorf("StepExpr(%.80s) = %v, %d", impl.FormatExpr(e), got, code)
	}
	for _, fuel := range []int{-1, 0, 1, 400, 401} {
		checkNoRun(t, e, fuel)
	}
}

// checkNoRun checks an evaluation whose arguments are not valid.
func checkNoRun(t *testing.T, e impl.Expr, fuel int) {
	t.Helper()
	got, code := impl.RunExpr(e, fuel)
	if steps := impl.CountSteps(e, fuel); code != impl.RunInvalid || !zeroExpr(got) || steps != 0 {
		t.Errorf("RunExpr(%.80s, %d) = %v, %d after %d steps", impl.FormatExpr(e), fuel, got, code, steps)
	}
}

func TestPureAndValueExprs(t *testing.T) {
	for _, text := range []string{"0", "99", "[I]#0", "[I]1", "[I][I]#1", "[I](#0 #0)", "[I](1+1)", "[t]#0", "[(A.t>u)][A.t]#1", "[I]([I]#1 #0)"} {
		if e := parsedExpr(t, text); !impl.PureExpr(e) || !impl.ValueExpr(e) {
			t.Errorf("%s is no value", text)
		}
	}
	for _, text := range []string{"(1+2)", "(1 2)", "([I]#0 1)", "([t]#0 1)", "?<1,2,3>", "?<[I]1,[I]#0,(1 1)>", endless} {
		if e := parsedExpr(t, text); !impl.PureExpr(e) || impl.ValueExpr(e) {
			t.Errorf("%s is not pure, or a value", text)
		}
	}
	for _, text := range []string{"#0", "#12", "[I]#1", "[I][I]#2", "([I]#0 #0)", "x", "A.x", "[I]x", "[I]A.x", "[I][I](#0 (#1 A.x))", "(x+1)", "[I](#0+#1)"} {
		checkNotPure(t, parsedExpr(t, text))
	}
	for _, part := range []string{"A.x", "x", "[I]x", "#1", "[I]#2", "#12", "([A.x]#0 A.x)"} {
		for _, text := range placeTexts(part) {
			checkNotPure(t, parsedExpr(t, text))
		}
	}
	for i, e := range inEachPlace(variable(0)) {
		if impl.PureExpr(e) != (i == 0) || impl.ValueExpr(e) != (i == 0) {
			t.Errorf("PureExpr(%s) = %v, ValueExpr = %v", impl.FormatExpr(e), impl.PureExpr(e), impl.ValueExpr(e))
		}
	}
}

func checkSubst(t *testing.T, body, v impl.Expr) {
	t.Helper()
	bodyText, text := impl.FormatExpr(body), impl.FormatExpr(v)
	want := substText(bodyText, text, 0)
	wanted := withinText(want)
	if !wanted {
		want = ""
	}
	got, ok := impl.SubstExpr(body, v)
	if ok != wanted || impl.FormatExpr(got) != want || !ok && !zeroExpr(got) {
		t.Errorf("SubstExpr(%s, %s) = %s, %v, want %s", bodyText, text, impl.FormatExpr(got), ok, want)
	}
}

func checkNoSubst(t *testing.T, body, v impl.Expr) {
	t.Helper()
	if got, ok := impl.SubstExpr(body, v); ok || !zeroExpr(got) {
		t.Errorf("SubstExpr(%.80s, %.80s) = %v, %v", impl.FormatExpr(body), impl.FormatExpr(v), got, ok)
	}
}

func TestSubstExpr(t *testing.T) {
	for _, test := range []struct{ body, v, want string }{
		{"#0", "7", "7"},
		{"#1", "7", "#0"},
		{"#12", "7", "#11"},
		{"3", "7", "3"},
		{"(#0 [I](#1 #2))", "7", "(7 [I](7 #1))"},
		{"[I]#0", "7", "[I]#0"},
		{"[I]#1", "7", "[I]7"},
		{"[I]#2", "7", "[I]#1"},
		{"[I][t](#0 (#1 (#2 (#3 #12))))", "7", "[I][t](#0 (#1 (7 (#2 #11))))"},
		{"([I]#0 #0)", "7", "([I]#0 7)"},
		{"([I]#1 [I]#0)", "7", "([I]7 [I]#0)"},
		{"(#0+(#1+#0))", "7", "(7+(#0+7))"},
		{"?<#0,#1,[I]?<#0,#1,#2>>", "7", "?<7,#0,[I]?<#0,7,#1>>"},
		// What is put in is closed, so its own variables stay as they are, also within other functions.
		{"[I](#1 #0)", "[I]#0", "[I]([I]#0 #0)"},
		{"[I][I]#2", "[t][u](#0 #1)", "[I][I][t][u](#0 #1)"},
		{"(#0 #0)", "[I](#0 #0)", "([I](#0 #0) [I](#0 #0))"},
		// It need not be a value, and neither it nor the body must be pure.
		{"(#0+1)", "(1 2)", "((1 2)+1)"},
		{"(x #0)", "A.x", "(x A.x)"},
		{"(A.x+#1)", "x", "(A.x+#0)"},
		{"[(t>A.t)]#1", "[t]x", "[(t>A.t)][t]x"},
	} {
		body, v := parsedExpr(t, test.body), parsedExpr(t, test.v)
		if got, ok := impl.SubstExpr(body, v); !ok || impl.FormatExpr(got) != test.want {
			t.Errorf("SubstExpr(%s, %s) = %s, %v", test.body, test.v, impl.FormatExpr(got), ok)
		}
		checkSubst(t, body, v)
	}
	for _, body := range []string{"#0", "1", "x", "[I]#1"} {
		for _, v := range []string{"#0", "#12", "[I]#1", "(1+#0)", "(A.x #3)", "[I][I]#2"} {
			checkNoSubst(t, parsedExpr(t, body), parsedExpr(t, v))
		}
	}
}

// TestVariablesThatReferFurtherOutside has each variable within each number of functions.
func TestVariablesThatReferFurtherOutside(t *testing.T) {
	for n := range 13 {
		for functions := range 15 {
			around := strings.Repeat("[I]", functions)
			want := around + "#" + strconv.Itoa(n)
			switch {
			case n == functions:
				want = around + "[u]#0"
			case n > functions:
				want = around + "#" + strconv.Itoa(n-1)
			}
			body := parsedExpr(t, around+"#"+strconv.Itoa(n))
			got, ok := impl.SubstExpr(body, parsedExpr(t, "[u]#0"))
			if !ok || impl.FormatExpr(got) != want {
				t.Errorf("SubstExpr(%s) = %s, %v", impl.FormatExpr(body), impl.FormatExpr(got), ok)
			}
		}
	}
}

func TestSubstLimits(t *testing.T) {
	for count := 1; count <= 400; count++ {
		v, _ := sized(count, 3)
		for _, body := range []string{"#0", "1", "[I]#0", "[I]#1", "#1", "(#0+#0)", "(#0+[I]#1)", "(#0+[I][I]#2)", "(#0 (#0 #0))", "?<#0,#0,#0>", "[I]?<#1,#1,#1>"} {
			checkSubst(t, parsedExpr(t, body), v)
		}
	}
	// The largest results, and those one past them.
	for _, test := range []struct {
		body  string
		count int
		want  bool
	}{
		{"#0", 400, true}, {"[I]#1", 399, true}, {"[I]#1", 400, false}, {"(#0+[I]#1)", 199, true}, {"(#0+[I][I]#2)", 199, false}, {"?<#0,#0,#0>", 133, true}, {"?<#0,#0,[I]#1>", 133, false}, {"[I]1", 400, true},
	} {
		v, _ := sized(test.count, 2)
		if got, ok := impl.SubstExpr(parsedExpr(t, test.body), v); ok != test.want || impl.ExprValid(got) != test.want {
			t.Errorf("SubstExpr(%s) with %d nodes = %v", test.body, test.count, ok)
		}
	}
	for outer := 1; outer <= 40; outer++ {
		for place := range inEachPlace(number(1)) {
			body := nested(outer, place, variable(0))
			if place == 0 && outer <= 13 {
				body = nested(outer, place, variable(outer-1)) // which refers to the function around body
			}
			for _, inner := range []int{1, 39 - outer, 40 - outer, 41 - outer, 42 - outer, 40} {
				if 1 <= inner && inner <= 40 {
					checkSubst(t, body, nested(inner, 0, number(1)))
				}
			}
		}
	}
	for outer, want := range map[int]bool{20: true, 21: false} {
		if _, ok := impl.SubstExpr(nested(outer, 4, variable(0)), nested(21, 0, number(1))); ok != want {
			t.Errorf("SubstExpr at depth %d = %v", outer, ok)
		}
	}
}

// nested has a leaf at this depth, always in the same place of inEachPlace.
func nested(depth, place int, leaf impl.Expr) impl.Expr {
	for range depth - 1 {
		leaf = inEachPlace(leaf)[place]
	}
	return leaf
}

func TestStepExpr(t *testing.T) {
	for _, test := range []struct {
		text, want string
		code       int
	}{
		// Each kind of step.
		{"([I]#0 7)", "7", -1},
		{"([I]3 7)", "3", -1},
		{"(([I][I](#1+#0) 4) 5)", "([I](4+#0) 5)", -1},
		{"([I](4+#0) 5)", "(4+5)", -1},
		{"([I](#0 #0) [I]#0)", "([I]#0 [I]#0)", -1},
		{"(4+5)", "9", -1},
		{"(50+49)", "99", -1},
		{"(50+50)", "0", -1},
		{"(99+99)", "98", -1},
		{"(0+0)", "0", -1},
		{"?<0,1,2>", "2", -1},
		{"?<1,1,2>", "1", -1},
		{"?<99,1,2>", "1", -1},
		{"?<1,[I]#0,2>", "[I]#0", -1},
		// The first main operand that is no value comes first.
		{"((1+2) (3+4))", "(3 (3+4))", -1},
		{"((1+2)+(3+4))", "(3+(3+4))", -1},
		{"(3+(3+4))", "(3+7)", -1},
		{"([I]#0 (3+4))", "([I]#0 7)", -1},
		{"(1 (3+4))", "(1 7)", -1},
		{"([I]1+(3+4))", "([I]1+7)", -1},
		{"?<(1+2),(3+4),(5+6)>", "?<3,(3+4),(5+6)>", -1},
		{"?<?<?<1,0,2>,3,4>,5,6>", "?<?<0,3,4>,5,6>", -1},
		{"((((1+1)+1)+1)+1)", "(((2+1)+1)+1)", -1},
		// What is in a function or is not taken makes no step.
		{"?<1,(3+4),(5+6)>", "(3+4)", -1},
		{"?<0,(3+4),(5+6)>", "(5+6)", -1},
		{"?<1,(1 1),(5+6)>", "(1 1)", -1},
		{"([I](1+1) 2)", "(1+1)", -1},
		{"([I](1 #0) [I](1+1))", "(1 [I](1+1))", -1},
		// Types do not matter.
		{"([(I>I)]#0 1)", "1", -1},
		{"([t]#0 1)", "1", -1},
		{"([A.t][u]#1 [v]2)", "[u][v]2", -1},
		// Values.
		{"7", "7", impl.RunValue},
		{"[I]#0", "[I]#0", impl.RunValue},
		{"[I](1+1)", "[I](1+1)", impl.RunValue},
		{"[t](1 1)", "[t](1 1)", impl.RunValue},
		// A function as a number, or a number as a function.
		{"(1 2)", "(1 2)", impl.RunStuck},
		{"(1 [I]2)", "(1 [I]2)", impl.RunStuck},
		{"([I]#0+2)", "([I]#0+2)", impl.RunStuck},
		{"(2+[I]#0)", "(2+[I]#0)", impl.RunStuck},
		{"([I]#0+[I]#0)", "([I]#0+[I]#0)", impl.RunStuck},
		{"?<[I]#0,1,2>", "?<[I]#0,1,2>", impl.RunStuck},
		{"?<[I]#0,(1+1),(2+2)>", "?<[I]#0,(1+1),(2+2)>", impl.RunStuck},
		// An operand that makes no step stops those behind it, too.
		{"((1 2) (3+4))", "((1 2) (3+4))", impl.RunStuck},
		{"((1 2)+(3+4))", "((1 2)+(3+4))", impl.RunStuck},
		{"([I]#0 (1 2))", "([I]#0 (1 2))", impl.RunStuck},
		{"([I]0 (1 2))", "([I]0 (1 2))", impl.RunStuck},
		{"(3+(1 2))", "(3+(1 2))", impl.RunStuck},
		{"((3+4)+(1 2))", "(7+(1 2))", -1},
		{"?<(1 2),(3+4),5>", "?<(1 2),(3+4),5>", impl.RunStuck},
		{"((((1 2)+1)+1)+1)", "((((1 2)+1)+1)+1)", impl.RunStuck},
		{"?<([I]#0+1),(3+4),5>", "?<([I]#0+1),(3+4),5>", impl.RunStuck},
	} {
		e := parsedExpr(t, test.text)
		if got, code := impl.StepExpr(e); code != test.code || impl.FormatExpr(got) != test.want {
			t.Errorf("StepExpr(%s) = %s, %d, want %s, %d", test.text, impl.FormatExpr(got), code, test.want, test.code)
		}
		for _, x := range append(inEachPlace(e), e, call(lambda(num, variable(0)), e), sum(sum(number(1), e), call(number(1), number(2)))) {
			checkStep(t, x)
			for fuel := range 8 {
				checkRun(t, x, fuel)
			}
		}
	}
}

func TestAllSums(t *testing.T) {
	for a := range 100 {
		for b := range 100 {
			want := number(a + b)
			if a+b > 99 {
				want = number(a + b - 100)
			}
			if got, code := impl.StepExpr(sum(number(a), number(b))); code != -1 || !equalExprs(got, want) {
				t.Errorf("(%d+%d) becomes %v, %d", a, b, got, code)
			}
		}
		want := number(5)
		if a == 0 {
			want = number(6)
		}
		if got, code := impl.StepExpr(choice(number(a), number(5), number(6))); code != -1 || !equalExprs(got, want) {
			t.Errorf("?<%d,5,6> becomes %v, %d", a, got, code)
		}
	}
}

// TestStepLimits has steps whose results are as large as they may be, or one past it.
func TestStepLimits(t *testing.T) {
	codes := map[int]int{}
	for count := 70; count <= 205; count++ {
		for _, body := range []string{"(#0 #0)", "(#0+[I]#1)", "(#0+[I][I]#2)", "?<#0,#0,1>", "(#0+(#0+#0))", "((#0+#0)+(#0+#0))", "(#0+((#0+#0)+(#0+#0)))"} {
			e := call(lambda(num, parsedExpr(t, body)), lambda(num, pureSized(count-1, 1+count%3)))
			for _, x := range []impl.Expr{e, sum(e, number(1)), call(number(1), e), choice(e, number(1), number(2))} {
				if impl.ExprValid(x) {
					codes[checkStep(t, x)]++
					codes[checkRun(t, x, count%2)]++
				}
			}
		}
	}
	checkCodes(t, codes, -1, impl.RunLarge, impl.RunFuel, impl.RunStuck)
	for outer := 1; outer <= 37; outer++ {
		for _, place := range []int{1, 2, 3, 4, 5} {
			for _, inner := range []int{2, 38 - outer, 39 - outer, 40 - outer} {
				if inner < 2 {
					continue
				}
				e := nested(outer, place, call(lambda(num, call(number(1), call(variable(0), number(2)))), nested(inner, 0, number(1))))
				if impl.ExprValid(e) {
					checkStep(t, e)
					checkRun(t, e, 1)
				}
			}
		}
	}
	for nodes, want := range map[int]int{198: -1, 199: -1, 200: impl.RunLarge} {
		e := call(parsedExpr(t, "[I](#0 #0)"), lambda(num, pureSized(nodes-1, 2)))
		if _, code := impl.StepExpr(e); code != want {
			t.Errorf("a step of a call with %d nodes has the code %d", nodes, code)
		}
	}
}

// TestCodesOfRunExpr has evaluations that end in each way, with each fuel around their number of steps.
func TestCodesOfRunExpr(t *testing.T) {
	for _, test := range []struct {
		text, want  string
		code, steps int
	}{
		{"7", "7", impl.RunValue, 0},
		{"[I](0+(1+1))", "[I](0+(1+1))", impl.RunValue, 0},
		{"(1+1)", "2", impl.RunValue, 1},
		{"(([I][I](#1+#0) 4) 5)", "9", impl.RunValue, 3},
		{"?<(50+50),1,(2+2)>", "4", impl.RunValue, 3},
		{"(([(I>I)][I](#1 (#1 #0)) [I](#0+3)) 1)", "7", impl.RunValue, 6},
		{"([I][I](#1+#0) (4+5))", "[I](9+#0)", impl.RunValue, 2},
		{"?<1,(2+3),(1 1)>", "5", impl.RunValue, 2},
		{"?<0,(1 1),(2+3)>", "5", impl.RunValue, 2},
		{"([I]7 [I](#0 #0))", "7", impl.RunValue, 1},
		{"([I]7 [I]" + endless + ")", "7", impl.RunValue, 1},
		{"?<1,7," + endless + ">", "7", impl.RunValue, 1},
		{"(1 2)", "(1 2)", impl.RunStuck, 0},
		{"([I]#0+2)", "([I]#0+2)", impl.RunStuck, 0},
		{"?<[I]#0,(1+1),2>", "?<[I]#0,(1+1),2>", impl.RunStuck, 0},
		{"((1 2)+" + endless + ")", "((1 2)+" + endless + ")", impl.RunStuck, 0},
		{"((1+2) (3+4))", "(3 7)", impl.RunStuck, 2},
		{"([I](#0+1) [I]2)", "([I]2+1)", impl.RunStuck, 1},
		{"([t](?<#0,1,2>+(1+1)) [t]3)", "(?<[t]3,1,2>+(1+1))", impl.RunStuck, 1},
		{"([I](#0 (#0 1)) [I](1 #0))", "([I](1 #0) (1 1))", impl.RunStuck, 2},
		{endless, "", impl.RunFuel, 400},
		{"([I]7 " + endless + ")", "", impl.RunFuel, 400},
		{"(" + endless + "+(1 2))", "", impl.RunFuel, 400},
		{"((1+1)+" + endless + ")", "", impl.RunFuel, 400},
		{growing, "", impl.RunLarge, 35}, // it has depth 5 at first
		{"(1+" + growing + ")", "", impl.RunLarge, 34},
		{"((1+1)+" + growing + ")", "", impl.RunLarge, 35},
	} {
		e := parsedExpr(t, test.text)
		for fuel := range 401 {
			want, code, steps := test.want, test.code, test.steps
			if fuel < steps || fuel == steps && code == impl.RunLarge {
				want, code, steps = "", impl.RunFuel, fuel
			}
			got, k := impl.RunExpr(e, fuel)
			if n := impl.CountSteps(e, fuel); k != code || impl.FormatExpr(got) != want || n != steps || want == "" && !zeroExpr(got) {
				t.Errorf("RunExpr(%s, %d) = %s, %d after %d steps, want %s, %d after %d", test.text, fuel, impl.FormatExpr(got), k, n, want, code, steps)
			}
		}
		for _, fuel := range []int{-1, -2, -400, -1 << 62, 401, 402, 1000, 1 << 62} {
			checkNoRun(t, e, fuel)
		}
	}
}

// stepsExpr takes so many steps: a loop that counts down by adding 99, and sums.
func stepsExpr(steps int) impl.Expr {
	rounds := min((steps-3)/4, 99)
	again := lambda(num, lambda(num, choice(variable(0), call(call(variable(1), variable(1)), sum(variable(0), number(99))), number(7))))
	e := call(call(again, again), number(rounds))
	for range steps - 3 - 4*rounds {
		e = sum(e, number(1))
	}
	return e
}

func sumOf(steps int) impl.Expr {
	if steps == 0 {
		return number(1)
	}
	left := (steps - 1) / 2
	return sum(sumOf(left), sumOf(steps-1-left))
}

func TestFuelLimit(t *testing.T) {
	for steps := 3; steps <= 410; steps++ {
		e := stepsExpr(steps)
		want := impl.RunValue
		if steps > 400 {
			want = impl.RunFuel
		}
		got, code := impl.RunExpr(e, 400)
		if n := impl.CountSteps(e, 400); code != want || n != min(steps, 400) || (got.Kind == impl.ExprNum) != (want == impl.RunValue) {
			t.Errorf("RunExpr of %d steps = %v, %d after %d steps", steps, got, code, n)
		}
		for _, fuel := range []int{steps - 1, steps, steps + 1} {
			if fuel > 400 {
				checkNoRun(t, e, fuel)
			} else {
				checkRun(t, e, fuel)
			}
		}
	}
}

// TestLargestPureExprs evaluates expressions with as many nodes and levels as a valid one may have.
func TestLargestPureExprs(t *testing.T) {
	e := sum(sumOf(198), lambda(num, number(1))) // 400 nodes
	if checkRun(t, e, 400) != impl.RunStuck || checkRun(t, lambda(num, sum(sumOf(197), variable(0))), 400) != impl.RunValue {
		t.Error("an expression with 400 nodes does not end as it should")
	}
	checkNotPure(t, sum(sumOf(199), number(1)))
	checkNotPure(t, lambda(num, lambda(num, sumOf(199))))
	for place := range inEachPlace(number(1)) {
		checkRun(t, nested(40, place, number(1)), 400)
		checkRun(t, nested(39, place, sum(number(1), number(2))), 400)
		checkNotPure(t, nested(41, place, number(1)))
		checkNotPure(t, nested(40, place, sum(number(1), number(2))))
	}
	shared := sharedExpr(7, number(1))
	if code := checkRun(t, shared, 400); code != impl.RunValue {
		t.Errorf("a sum with shared parts ends with the code %d", code)
	}
	half := lambda(num, sharedExpr(6, variable(0)))
	for _, e := range []impl.Expr{call(half, number(1)), call(lambda(num, number(1)), half), call(half, half), sum(call(half, number(1)), call(half, number(1)))} {
		checkStep(t, e)
		checkRun(t, e, 400)
	}
}

func checkExpanded(t *testing.T, defs []impl.Def, text, want string) {
	t.Helper()
	got, ok := impl.ExpandExpr(defs, parsedExpr(t, text))
	if ok != (want != "") || impl.FormatExpr(got) != want || !ok && !zeroExpr(got) {
		t.Errorf("ExpandExpr(%s) = %s, %v, want %s", text, impl.FormatExpr(got), ok, want)
	}
}

func TestExpandExpr(t *testing.T) {
	const known = "A.f:=[I](#0+1);x:=5;B.x:=(1 2);y:=[t][A.t](#0 #1)"
	for _, test := range []struct{ defs, text, want string }{
		{known, "A.f", "[I](#0+1)"},
		{known, "x", "5"},
		{known, "(A.f (x+x))", "([I](#0+1) (5+5))"},
		{known, "B.x", "(1 2)"},
		{known, "(x B.x)", "(5 (1 2))"},
		{known, "[I](y #0)", "[I]([t][A.t](#0 #1) #0)"},
		{known, "?<x,A.f,[I][I]y>", "?<5,[I](#0+1),[I][I][t][A.t](#0 #1)>"},
		// Variables stay as they are, also those that need functions around the expression.
		{known, "(#0+(x+#12))", "(#0+(5+#12))"},
		{known, "[I](#0 (#1 x))", "[I](#0 (#1 5))"},
		{known, "7", "7"},
		{"", "7", "7"},
		{"", "[t](#0+(1 2))", "[t](#0+(1 2))"},
		// Names of types are no names of values.
		{"t:=5;A.t:=6", "[t][A.t](t A.t)", "[t][A.t](5 6)"},
		{"x:=5", "[t][A.t]x", "[t][A.t]5"},
		// Names that are defined twice.
		{"x:=1;x:=2", "x", "1"},
		{"x:=1;A.x:=2;x:=3;A.x:=4", "(x A.x)", "(1 2)"},
		{"A.x:=4;x:=3;A.x:=2;x:=1", "(x A.x)", "(3 4)"},
		// Names that are not defined.
		{known, "A.x", ""},
		{known, "f", ""},
		{known, "B.f", ""},
		{known, "A.y", ""},
		{known, "z", ""},
		{known, "(x z)", ""},
		{known, "(z x)", ""},
		{known, "[I]?<1,2,z>", ""},
		{known, "[I][I](#0 (#1 C.x))", ""},
		{"", "x", ""},
		{"x:=1", "A.x", ""},
		{"A.x:=1", "x", ""},
		{"A.x:=1", "B.x", ""},
	} {
		checkExpanded(t, parsedDefs(t, test.defs), test.text, test.want)
	}
}

// TestDefsThatAreNotPure has a definition that is not pure in each place; it may be one that does not count.
func TestDefsThatAreNotPure(t *testing.T) {
	var bad []impl.Expr
	for _, text := range []string{"#0", "#12", "[I]#1", "y", "A.x", "x", "[I]x", "([I]#0 A.x)", "(1+#0)"} {
		bad = append(bad, parsedExpr(t, text))
	}
	bad = append(append(bad, impl.Expr{}, deep(41), exprLoop(1, number(1)), sharedExpr(8, number(1)), lambda(loop(1, num), number(1))), invalidExprs()...)
	good := parsedDefs(t, "x:=1;A.x:=[I]#0;y:=(1 2)")
	for _, e := range bad {
		for _, d := range []impl.Def{def("", "x", e), def("A", "x", e), def("", "z", e), def("B", "x", e), def("no name", "", e)} {
			for at := range len(good) + 1 {
				list := slices.Insert(slices.Clone(good), at, d)
				for _, text := range []string{"x", "7", "(x+A.x)", "z"} {
					checkExpanded(t, list, text, "")
				}
			}
		}
	}
}

// TestDefsWithoutNames has definitions that no name refers to, as their names are not valid.
func TestDefsWithoutNames(t *testing.T) {
	var list []impl.Def
	for _, n := range []string{"", "A", "I", "xx", "A.x", " ", ".x", "\xff"} {
		list = append(list, def("", n, number(2)), def("A", n, number(3)), def(n, n, number(4)))
	}
	list = append(list, def("I", "x", number(5)), def("x", "x", number(6)), def("A.", "x", number(7)), def("AA", "x", number(8)), def("", "x", number(1)))
	checkExpanded(t, list, "(x+2)", "(1+2)")
	checkExpanded(t, list, "A.x", "")
	checkExpanded(t, list[:len(list)-1], "x", "")
}

func TestExpandLimits(t *testing.T) {
	for _, count := range []int{1, 2, 399, 400, 401, 402, 100000} {
		list := slices.Repeat([]impl.Def{def("", "x", number(1))}, count)
		want := "(1+7)"
		if count > 400 {
			want = ""
		}
		checkExpanded(t, list, "(x+7)", want)
		list[count-1] = def("B", "z", number(2))
		if count > 400 {
			checkExpanded(t, list, "7", "")
		} else {
			checkExpanded(t, list, "B.z", "2")
		}
	}
	for count := 1; count <= 400; count++ {
		e := pureSized(count, 3)
		list := []impl.Def{def("", "x", e), def("A", "x", number(1))}
		to := map[string]string{"x": impl.FormatExpr(e), "A.x": "1"}
		for _, text := range []string{"x", "[I]x", "(x+A.x)", "(x x)", "?<x,x,A.x>", "(x (x+[I]x))", "7", "A.x"} {
			checkExpandText(t, list, to, parsedExpr(t, text))
		}
	}
	for outer := 1; outer <= 40; outer++ {
		for place := range inEachPlace(number(1)) {
			for _, inner := range []int{1, 40 - outer, 41 - outer, 42 - outer, 40} {
				if 1 <= inner && inner <= 40 {
					e := nested(inner, place, number(1))
					checkExpandText(t, []impl.Def{def("A", "x", e)}, map[string]string{"A.x": impl.FormatExpr(e)}, nested(outer, 7-place, path("A", "x")))
				}
			}
		}
	}
	list := []impl.Def{def("", "x", pureSized(400, 2)), def("", "y", nested(40, 0, number(1)))}
	for text, want := range map[string]bool{"x": true, "y": true, "[I]x": false, "[I]y": false, "(x+1)": false, "#0": true} {
		if got, ok := impl.ExpandExpr(list, parsedExpr(t, text)); ok != want || impl.ExprValid(got) != want {
			t.Errorf("ExpandExpr of %s and large definitions = %v", text, ok)
		}
	}
}

// checkExpandText compares ExpandExpr with replacements in the text. Names that have none become "@".
func checkExpandText(t *testing.T, list []impl.Def, to map[string]string, e impl.Expr) {
	t.Helper()
	want := expandText(impl.FormatExpr(e), to)
	wanted := !strings.Contains(want, "@") && withinText(want)
	got, ok := impl.ExpandExpr(list, e)
	if ok != wanted || ok && impl.FormatExpr(got) != want || !ok && !zeroExpr(got) {
		t.Errorf("ExpandExpr(%s, %v) = %s, %v", impl.FormatExpr(e), to, impl.FormatExpr(got), ok)
	}
}

func TestRunInvalidExprs(t *testing.T) {
	for _, e := range append(invalidExprs(), impl.Expr{}, deep(41), sharedExpr(8, number(1)), sharedExpr(200, number(1)), exprLoop(1, number(1)), exprLoop(40, variable(0)), exprLoop(1000, path("A", "x")), lambda(loop(1, num), number(1)), lambda(sharedType(200, num), number(1)), deep(200000)) {
		for _, x := range append(inEachPlace(e), e, call(lambda(num, number(1)), e), choice(number(1), number(1), e)) {
			checkNotPure(t, x)
			checkNoSubst(t, x, number(1))
			checkNoSubst(t, number(1), x)
			checkNoSubst(t, variable(0), x)
			if got, ok := impl.ExpandExpr([]impl.Def{def("A", "x", number(1))}, x); ok || !zeroExpr(got) {
				t.Errorf("ExpandExpr(%.80s) = %v, %v", impl.FormatExpr(x), got, ok)
			}
		}
	}
}

// TestEmptyKidsOfPureExprs has empty slices in place of nil.
func TestEmptyKidsOfPureExprs(t *testing.T) {
	one, zero := number(1), variable(0)
	one.Kids, zero.Kids = []impl.Expr{}, []impl.Expr{}
	one.Arg.Kids = []impl.Type{}
	checkRun(t, sum(call(lambda(num, zero), one), one), 5)
	checkSubst(t, sum(zero, one), one)
	if got, ok := impl.ExpandExpr([]impl.Def{}, one); !ok || !impl.ExprSame(got, one) || !impl.ValueExpr(one) {
		t.Errorf("ExpandExpr = %v, %v", got, ok)
	}
}
