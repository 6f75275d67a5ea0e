package tests

import (
	"math/rand"
	"slices"
	"strconv"
	"strings"
	"testing"

	"loop.example/modlink/impl"
)

func TestExprsAndTheirTexts(t *testing.T) {
	u := name("", "u")
	tests := []struct {
		text  string
		expr  impl.Expr
		names string
		free  int
	}{
		{"#0", variable(0), "", 1},
		{"#9", variable(9), "", 10},
		{"#10", variable(10), "", 11},
		{"#12", variable(12), "", 13},
		{"0", number(0), "", 0},
		{"7", number(7), "", 0},
		{"10", number(10), "", 0},
		{"99", number(99), "", 0},
		{"a", path("", "a"), "a", 0},
		{"z", path("", "z"), "z", 0},
		{"A.a", path("A", "a"), "A.a", 0},
		{"Z.i", path("Z", "i"), "Z.i", 0},
		{"[I]#0", lambda(num, variable(0)), "", 0},
		{"[I]#1", lambda(num, variable(1)), "", 1},
		{"[u]u", lambda(u, path("", "u")), "u", 0},
		{"[A.t]1", lambda(name("A", "t"), number(1)), "", 0},
		{"[(u>I)][u](#1 #0)", lambda(fun(u, num), lambda(u, call(variable(1), variable(0)))), "", 0},
		{"(1 2)", call(number(1), number(2)), "", 0},
		{"(1+2)", sum(number(1), number(2)), "", 0},
		{"?<1,2,3>", choice(number(1), number(2), number(3)), "", 0},
		{"((1 2) 3)", call(call(number(1), number(2)), number(3)), "", 0},
		{"(1 (2 3))", call(number(1), call(number(2), number(3))), "", 0},
		{"((1+2) (3 4))", call(sum(number(1), number(2)), call(number(3), number(4))), "", 0},
		{"((1 2)+(3+4))", sum(call(number(1), number(2)), sum(number(3), number(4))), "", 0},
		{"([I]1+2)", sum(lambda(num, number(1)), number(2)), "", 0},
		{"[I](1+2)", lambda(num, sum(number(1), number(2))), "", 0},
		{"([I]#0 [I]#0)", call(lambda(num, variable(0)), lambda(num, variable(0))), "", 0},
		{"[I]?<#0,[I]#1,(#2+#0)>", lambda(num, choice(variable(0), lambda(num, variable(1)), sum(variable(2), variable(0)))), "", 2},
		{"(A.s A.z)", call(path("A", "s"), path("A", "z")), "A.s A.z", 0},
		{"(z (A.z+?<B.z,z,A.z>))", call(path("", "z"), sum(path("A", "z"), choice(path("B", "z"), path("", "z"), path("A", "z")))), "z A.z B.z", 0},
		{"?<?<b,a,c>,[a]d,(a b)>", choice(choice(path("", "b"), path("", "a"), path("", "c")), lambda(name("", "a"), path("", "d")), call(path("", "a"), path("", "b"))), "b a c d", 0},
		{"(([I]#3 #1)+#2)", sum(call(lambda(num, variable(3)), variable(1)), variable(2)), "", 3},
	}
	for _, test := range tests {
		checkExpr(t, test.expr, test.text)
		if got := joinedNames(t, test.expr); got != test.names {
			t.Errorf("ExprNames of %s = %s, want %s", test.text, got, test.names)
		}
		if got := impl.MaxFree(test.expr); got != test.free {
			t.Errorf("MaxFree of %s = %d, want %d", test.text, got, test.free)
		}
	}
}

// checkExpr checks that an expression is valid, has this text, and is read back from it.
func checkExpr(t *testing.T, e impl.Expr, text string) {
	t.Helper()
	if !impl.ExprValid(e) {
		t.Errorf("%s is not valid", text)
	}
	if got := impl.FormatExpr(e); got != text {
		t.Errorf("FormatExpr = %q, want %q", got, text)
	}
	if got, ok := impl.ParseExpr(text); !ok || !equalExprs(got, e) {
		t.Errorf("ParseExpr(%q) = %v, %v", text, got, ok)
	}
}

func joinedNames(t *testing.T, e impl.Expr) string {
	t.Helper()
	var texts []string
	for _, n := range impl.ExprNames(e) {
		if !equalExprs(n, path(n.Mod, n.Name)) {
			t.Errorf("ExprNames of %v has %v", e, n)
		}
		texts = append(texts, impl.FormatExpr(n))
	}
	return strings.Join(texts, " ")
}

func TestTextsThatAreNoExpr(t *testing.T) {
	texts := []string{
		"", " ", "1 ", " 1", "1\n", "\n1", "1\x00", "\x00", "é", "١", "-1", "+1", "1.0", "1e1", "0x1", "1_0", "I", "i.x", "A", "AA", "A.", "A.I", "A.A", "A.1", "A.xx", "A.x.y", "A..x", "AB.x",
		".x", "x.", "x.y", "I.x", "xx", "x1", "1x", "x y", "1 2", "1+2", "x+y", "#", "##0", "#-0", "#+1", "#x", "# 0", "#0#1", "#0x", "0#0", "#(0)",
		"()", "(", ")", "(1)", "(x)", "(#0)", "( 1)", "(1 )", "(+)", "( )", "(1+)", "(+1)", "(1  2)", "(1 2 )", "( 1 2)", "(1 2 3)", "(1+2+3)", "(1+ 2)", "(1 +2)", "(1 2", "(1+2", "1 2)", "(1 2))", "((1 2)", "(1-2)", "(1*2)", "(1,2)", "(1>2)", "(12)", "(1\t2)", "(1 2]", "[1 2]", "{1 2}",
		"[I]", "[]1", "[]", "[I", "I]1", "[I]1]", "[I]]1", "[[I]1", "[I] 1", "[ I]1", "[I ]1", "[1]1", "[#0]1", "[A]1", "[A.]1", "[II]1", "[(I)]1", "[(I>I]1", "[I>I]1", "[(I>I))]1", "[(I I)]1", "(I]1", "[I)1", "[I]1 2", "[I][I]", "[I]I", "[I]A", "[(I>I>I)]1",
		"?", "?<", "?<>", "?<1>", "?<1,2>", "?<1,2,3", "?<1,2,3,4>", "?<1,2,3>>", "?<<1,2,3>", "?<,2,3>", "?<1,,3>", "?<1,2,>", "?<1 2 3>", "?<1, 2,3>", "?<1,2,3)", "?(1,2,3)", "<1,2,3>", "? <1,2,3>", "?<1;2;3>", "?1,2,3", "?<1+2,3>", "??<1,2,3>", "?<1,2,3> ",
	}
	for _, text := range append(texts, badNumbers()...) {
		checkNoExpr(t, text)
		for _, around := range []string{"[I]*", "(* 1)", "(1 *)", "(*+1)", "(1+*)", "?<*,1,1>", "?<1,*,1>", "?<1,1,*>"} {
			checkNoExpr(t, strings.Replace(around, "*", text, 1))
		}
	}
}

func badNumbers() []string {
	texts := []string{"100", "101", "199", "999", "1000", "00", "01", "09", "010", "099", "000", "18446744073709551616", "18446744073709551617", "99999999999999999999999"}
	for _, n := range []string{"13", "14", "19", "20", "99", "100", "00", "01", "012", "010", "18446744073709551616"} {
		texts = append(texts, "#"+n)
	}
	return texts
}

func checkNoExpr(t *testing.T, text string) {
	t.Helper()
	if got, ok := impl.ParseExpr(text); ok || !equalExprs(got, impl.Expr{}) {
		t.Errorf("ParseExpr(%.30q) = %v, %v", text, got, ok)
	}
}

func TestLongTextsThatAreNoExpr(t *testing.T) {
	for _, part := range []string{"(", "[I]", "[", "[(", "?<", "?<1,", "(1 ", "(1+", "((1 1) ", "#", "1", "0", "#1", "x", "A.", ")", "[(I>", "?<(1 2),"} {
		checkNoExpr(t, strings.Repeat(part, 1000000))
	}
	checkNoExpr(t, "(1 2)"+strings.Repeat(")", 1000000))
	checkNoExpr(t, "1"+strings.Repeat(" ", 1000000))
}

// TestAllShortExprTexts compares ParseExpr, for each text of an alphabet, with a list of all expressions.
func TestAllShortExprTexts(t *testing.T) {
	const longest = 8
	valid := map[string]bool{}
	for _, text := range exprTextsUpTo(longest, map[int][]string{}) {
		valid[text] = true
	}
	for _, test := range []struct {
		alphabet string
		length   int
	}{
		{"() +?<,>[]01#IaA.", 4}, {"()+ 1#a", 7}, {"?<,>1", 8}, {"[]I#01", 7}, {"#0123459", 5}, {"(A.a I)", 7}, {"[(I>a)]", 8},
	} {
		var visit func(text string)
		visit = func(text string) {
			got, ok := impl.ParseExpr(text)
			want := valid[text]
			if strings.ContainsAny(text, "234569") {
				want = isExprText(text)
			}
			if ok != want || ok && impl.FormatExpr(got) != text {
				t.Errorf("ParseExpr(%q) = %v, %v", text, got, ok)
			}
			if len(text) == test.length {
				return
			}
			for _, c := range test.alphabet {
				visit(text + string(c))
			}
		}
		visit("")
	}
}

// exprTextsUpTo lists the texts of expressions with the digits 0 and 1 and the names a and A.a that have
// at most this length.
func exprTextsUpTo(length int, known map[int][]string) []string {
	if length <= 0 {
		return nil
	}
	if texts, ok := known[length]; ok {
		return texts
	}
	texts := []string{}
	add := func(text string) {
		if len(text) <= length {
			texts = append(texts, text)
		}
	}
	for _, leaf := range []string{"0", "1", "10", "11", "#0", "#1", "#10", "#11", "a", "A.a"} {
		add(leaf)
	}
	for _, arg := range []string{"I", "a", "A.a", "(I>I)", "(I>a)", "(a>I)", "(a>a)"} {
		for _, body := range exprTextsUpTo(length-len("[]")-len(arg), known) {
			add("[" + arg + "]" + body)
		}
	}
	parts := exprTextsUpTo(length-len("( 1)"), known)
	for _, a := range parts {
		for _, b := range parts {
			add("(" + a + " " + b + ")")
			add("(" + a + "+" + b + ")")
			for _, c := range exprTextsUpTo(length-len("?<,,>")-len(a)-len(b), known) {
				add("?<" + a + "," + b + "," + c + ">")
			}
		}
	}
	known[length] = texts
	return texts
}

func TestChangedExprTexts(t *testing.T) {
	random := rand.New(rand.NewSource(11))
	accepted, rejected := 0, 0
	for range 40000 {
		_, text := randomExpr(random, "tu", "xy", 3, 1+random.Intn(5))
		text = changedBytes(random, text, "()+ ?<,>[]0139#ItA.x")
		got, ok := impl.ParseExpr(text)
		if want := isExprText(text); ok != want || ok && impl.FormatExpr(got) != text || !ok && !equalExprs(got, impl.Expr{}) {
			t.Fatalf("ParseExpr(%q) = %v, %v", text, got, ok)
		}
		if ok {
			accepted++
		} else {
			rejected++
		}
	}
	if accepted < 5000 || rejected < 5000 {
		t.Errorf("%d texts are accepted, %d are not", accepted, rejected)
	}
}

// inEachPlace puts an expression in the place of each operand of each kind.
func inEachPlace(x impl.Expr) []impl.Expr {
	one := number(1)
	return []impl.Expr{lambda(num, x), call(x, one), call(one, x), sum(x, one), sum(one, x), choice(x, one, one), choice(one, x, one), choice(one, one, x)}
}

// TestRandomExprs checks promise 4 for expressions.
func TestRandomExprs(t *testing.T) {
	random := rand.New(rand.NewSource(12))
	free := map[int]int{}
	for range 20000 {
		e, text := randomExpr(random, "tu", "abxy", random.Intn(14), 1+random.Intn(6))
		if shape := shapeOf(text); shape.nodes > 400 {
			continue
		}
		checkExpr(t, e, text)
		if got, want := joinedNames(t, e), strings.Join(pathTexts(text), " "); got != want {
			t.Fatalf("ExprNames of %s = %s, want %s", text, got, want)
		}
		got, want := impl.MaxFree(e), shapeOf(text).free
		if got != want {
			t.Fatalf("MaxFree of %s = %d, want %d", text, got, want)
		}
		free[got]++
	}
	for n := range 14 {
		if free[n] < 20 {
			t.Errorf("MaxFree is %d for %d expressions", n, free[n])
		}
	}
}

// invalidExprs lists expressions with one node that is wrong.
func invalidExprs() []impl.Expr {
	one := number(1)
	list := []impl.Expr{variable(-1), variable(13), variable(14), variable(99), variable(1 << 40), variable(-1 << 62), number(-1), number(100), number(101), number(1 << 40), number(-1 << 62)}
	for _, kind := range []int{-1, 0, 8, 9, 77, 1 << 40} {
		list = append(list, impl.Expr{Kind: kind}, impl.Expr{Kind: kind, N: 1}, impl.Expr{Kind: kind, Name: "x"}, impl.Expr{Kind: kind, Kids: []impl.Expr{one}}, impl.Expr{Kind: kind, Kids: []impl.Expr{one, one}}, impl.Expr{Kind: kind, Kids: []impl.Expr{one, one, one}})
	}
	for _, local := range []string{"", "A", "I", "xx", " ", "`", "{", "0", "é", "\xff", "A.x"} {
		list = append(list, path("", local), path("A", local))
	}
	for _, mod := range []string{"I", "x", "AA", " ", "@", "[", "É", "A."} {
		list = append(list, path(mod, "x"))
	}
	for _, arg := range append(invalidTypes(), chain(9, true, num), chain(9, false, num), full(7, num), fun(num, full(6, num)), loop(1, num), loop(1000, num)) {
		list = append(list, lambda(arg, one), lambda(fun(num, arg), one))
	}
	return append(list, exprsWithWrongFields()...)
}

// exprsWithWrongFields lists nodes of each kind with a field that the kind does not mention, or with a
// wrong number of operands.
func exprsWithWrongFields() []impl.Expr {
	one := number(1)
	var list []impl.Expr
	for _, e := range []impl.Expr{variable(0), number(0), path("", "x"), path("A", "x"), lambda(num, one), call(one, one), sum(one, one), choice(one, one, one)} {
		for count := range 6 {
			x := e
			if x.Kids = slices.Repeat([]impl.Expr{one}, count); count != len(e.Kids) {
				list = append(list, x)
			}
		}
		if e.Kind != impl.ExprVar && e.Kind != impl.ExprNum {
			for _, n := range []int{1, -1, 13, 100} {
				x := e
				x.N = n
				list = append(list, x)
			}
		}
		if e.Kind != impl.ExprName {
			x, y := e, e
			x.Mod, y.Name = "A", "x"
			list = append(list, x, y)
		}
		if e.Kind != impl.ExprFun {
			for _, arg := range []impl.Type{num, name("", "t"), fun(num, num), {Mod: "A"}, {Name: "t"}, {Kind: 4}, {Kids: []impl.Type{{}}}, loop(1, num)} {
				x := e
				x.Arg = arg
				list = append(list, x)
			}
		}
	}
	return list
}

func TestInvalidExprs(t *testing.T) {
	for _, x := range invalidExprs() {
		for _, y := range append(inEachPlace(x), x, lambda(num, call(number(1), x))) {
			checkInvalidExpr(t, y)
		}
	}
}

// checkInvalidExpr checks that each function rejects an expression.
func checkInvalidExpr(t *testing.T, e impl.Expr) {
	t.Helper()
	if impl.ExprValid(e) || impl.FormatExpr(e) != "" || len(impl.ExprNames(e)) != 0 || impl.MaxFree(e) != -1 {
		t.Errorf("%.200v: %v %q %v %d", impl.FormatExpr(e), impl.ExprValid(e), impl.FormatExpr(e), impl.ExprNames(e), impl.MaxFree(e))
	}
	checkInvalidStruct(t, defs(valDef("x", e)))
	if !impl.ExprSame(e, e) {
		t.Error("an expression is not the same as itself")
	}
}

func TestEmptyKidsOfExprsAreNone(t *testing.T) {
	for _, e := range []impl.Expr{variable(0), number(1), path("A", "x"), lambda(num, number(1)), call(number(1), path("", "x"))} {
		x := e
		x.Arg.Kids = []impl.Type{}
		if len(x.Kids) == 0 {
			x.Kids = []impl.Expr{}
		}
		if !impl.ExprValid(x) || impl.FormatExpr(x) != impl.FormatExpr(e) || impl.MaxFree(x) != impl.MaxFree(e) || !impl.ExprSame(x, e) || !impl.ExprSame(e, x) {
			t.Errorf("%v is not treated as %v", x, e)
		}
	}
}

func TestIndexAndNumberLimits(t *testing.T) {
	for n := -3; n <= 120; n++ {
		for kind, limit := range map[string]int{"#": 12, "": 99} {
			e := number(n)
			if kind == "#" {
				e = variable(n)
			}
			places, texts := append(inEachPlace(e), e), placeTexts(kind+strconv.Itoa(n))
			for i, x := range places {
				checkExprLimit(t, x, texts[i], 0 <= n && n <= limit)
			}
		}
	}
}

// placeTexts are the texts of inEachPlace, and the text itself.
func placeTexts(text string) []string {
	var texts []string
	for _, around := range []string{"[I]*", "(* 1)", "(1 *)", "(*+1)", "(1+*)", "?<*,1,1>", "?<1,*,1>", "?<1,1,*>", "*"} {
		texts = append(texts, strings.Replace(around, "*", text, 1))
	}
	return texts
}

// checkExprLimit checks an expression, and its text, which are both within the limits or both not.
func checkExprLimit(t *testing.T, e impl.Expr, text string, want bool) {
	t.Helper()
	if want {
		checkExpr(t, e, text)
		if impl.MaxFree(e) != shapeOf(text).free || joinedNames(t, e) != strings.Join(pathTexts(text), " ") {
			t.Errorf("MaxFree or ExprNames of %s is wrong", text)
		}
		return
	}
	checkNoExpr(t, text)
	checkInvalidExpr(t, e)
}

func TestExprDepthLimit(t *testing.T) {
	for i := range inEachPlace(number(1)) {
		e, text := path("A", "x"), "A.x"
		for depth := 1; depth <= 45; depth++ {
			if shape := shapeOf(text); shape.depth != depth || shape.nodes > 400 {
				t.Fatalf("%s has depth %d", text, shape.depth)
			}
			checkExprLimit(t, e, text, depth <= 40)
			e, text = inEachPlace(e)[i], placeTexts(text)[i]
		}
	}
	for _, extra := range []int{0, 1} {
		e, text := number(1), "1"
		for step := range 39 + extra {
			e, text = inEachPlace(e)[step%8], placeTexts(text)[step%8]
		}
		checkExprLimit(t, e, text, extra == 0)
	}
	checkExprLimit(t, sum(deep(39), deep(39)), "("+deepText(39)+"+"+deepText(39)+")", true)
	checkExprLimit(t, sum(deep(39), deep(40)), "("+deepText(39)+"+"+deepText(40)+")", false)
	checkExprLimit(t, sum(deep(40), deep(1)), "("+deepText(40)+"+"+deepText(1)+")", false)
}

// deep is an expression of this depth with as many nodes.
func deep(depth int) impl.Expr {
	e := variable(0)
	for range depth - 1 {
		e = lambda(num, e)
	}
	return e
}

func deepText(depth int) string { return strings.Repeat("[I]", depth-1) + "#0" }

func TestExprNodesLimit(t *testing.T) {
	for count := 395; count <= 405; count++ {
		for operands := 1; operands <= 3; operands++ {
			e, text := sized(count, operands)
			if shape := shapeOf(text); shape.nodes != count || shape.depth > 40 {
				t.Fatalf("%s has %d nodes", text, shape.nodes)
			}
			checkExprLimit(t, e, text, count <= 400)
			if count == 399 {
				for i, x := range []impl.Expr{lambda(num, e), call(e, number(1)), call(number(1), e)} {
					checkExprLimit(t, x, placeTexts(text)[i], i == 0)
				}
			}
		}
	}
	for _, count := range []int{1000, 100000} {
		e, text := sized(count, 3)
		checkExprLimit(t, e, text, false)
	}
}

// sized is an expression with this number of nodes, and its text. Most nodes have at most so many operands.
func sized(count, operands int) (impl.Expr, string) {
	switch {
	case count == 1:
		return path("", "x"), "x"
	case count == 2:
		e, text := sized(1, operands)
		return lambda(num, e), "[I]" + text
	case operands == 3 && count > 3:
		c, ct := sized(count/3, operands)
		a, at := sized((count-1)/3, operands)
		b, bt := sized(count-1-count/3-(count-1)/3, operands)
		return choice(c, a, b), "?<" + ct + "," + at + "," + bt + ">"
	}
	a, at := sized(count/2, operands)
	b, bt := sized(count-1-count/2, operands)
	if operands == 1 {
		return call(a, b), "(" + at + " " + bt + ")"
	}
	return sum(a, b), "(" + at + "+" + bt + ")"
}

// TestArgumentLimits has types at their limits, which do not count as nodes of the expression.
func TestArgumentLimits(t *testing.T) {
	for _, test := range []struct {
		arg  impl.Type
		text string
		want bool
	}{
		{chain(8, true, num), strings.Repeat("(", 7) + "I" + strings.Repeat(">I)", 7), true},
		{chain(8, false, num), strings.Repeat("(I>", 7) + "I" + strings.Repeat(")", 7), true},
		{chain(9, true, num), strings.Repeat("(", 8) + "I" + strings.Repeat(">I)", 8), false},
		{chain(9, false, num), strings.Repeat("(I>", 8) + "I" + strings.Repeat(")", 8), false},
		{full(6, num), fullText(6, "I"), true},
		{full(6, name("A", "t")), fullText(6, "A.t"), true},
		{fun(full(6, num), num), "(" + fullText(6, "I") + ">I)", false},
	} {
		for _, depth := range []int{1, 2, 39} {
			e, text := number(1), "1"
			for range depth {
				e, text = lambda(test.arg, e), "["+test.text+"]"+text
			}
			checkExprLimit(t, e, text, test.want)
		}
	}
}

func TestMaxFree(t *testing.T) {
	for n := range 13 {
		for functions := range 20 {
			e := variable(n)
			for range functions {
				e = lambda(num, e)
			}
			want := max(0, n+1-functions)
			if got := impl.MaxFree(e); got != want {
				t.Errorf("MaxFree of #%d in %d functions = %d", n, functions, got)
			}
			for _, x := range []impl.Expr{sum(e, number(1)), choice(number(1), variable(0), e), call(lambda(num, variable(0)), e)} {
				if got := impl.MaxFree(x); got != max(want, impl.MaxFree(x.Kids[1])) {
					t.Errorf("MaxFree of %s = %d", impl.FormatExpr(x), got)
				}
			}
		}
	}
}

func TestExprNamesOfManyNames(t *testing.T) {
	e, want := path("", "z"), "z"
	for i := range 26 {
		local := string(rune('a' + i))
		if mod := string(rune('Z' - i)); impl.ModuleName(mod) {
			e, want = call(e, path(mod, local)), want+" "+mod+"."+local
		}
	}
	e = sum(e, e)
	if got := joinedNames(t, e); got != want {
		t.Errorf("ExprNames = %s, want %s", got, want)
	}
}

func TestExprSame(t *testing.T) {
	one := number(1)
	list := append(invalidExprsWithoutLoops(), variable(0), variable(1), number(0), one, path("", "x"), path("", "y"), path("A", "x"), path("B", "x"), lambda(num, one), lambda(name("", "t"), one), lambda(num, variable(1)),
		call(one, one), sum(one, one), call(one, variable(1)), call(variable(1), one), choice(one, one, one), choice(one, one, variable(1)))
	for _, a := range list {
		for _, b := range list {
			want := equalExprs(a, b)
			if impl.ExprSame(a, b) != want || impl.ExprSame(lambda(num, sum(a, one)), lambda(num, sum(b, one))) != want || impl.ExprSame(call(a, b), call(b, a)) != want {
				t.Errorf("ExprSame of %v and %v is not %v", a, b, want)
			}
		}
		if !impl.ExprSame(a, copyExpr(a)) {
			t.Errorf("%v is not the same as its copy", a)
		}
	}
}

func invalidExprsWithoutLoops() []impl.Expr {
	return slices.DeleteFunc(invalidExprs(), func(e impl.Expr) bool {
		return impl.TypeSame(e.Arg, loop(1, num)) || len(e.Arg.Kids) == 2 && impl.TypeSame(e.Arg.Kids[1], loop(1, num))
	})
}

func TestExprSameFindsEachDifference(t *testing.T) {
	random := rand.New(rand.NewSource(13))
	for range 5000 {
		a, _ := randomExpr(random, "tu", "xy", 3, 6)
		b := copyExpr(a)
		if !impl.ExprSame(a, b) {
			t.Fatalf("%v is not the same as its copy", a)
		}
		at := &b
		for len(at.Kids) > 0 && random.Intn(5) > 0 {
			at = &at.Kids[random.Intn(len(at.Kids))]
		}
		changeNode(random, at)
		if impl.ExprSame(a, b) || impl.ExprSame(b, a) {
			t.Fatalf("%v is the same as %v", a, b)
		}
	}
}

// changeNode changes one field of a node, or of a node of its Arg.
func changeNode(random *rand.Rand, e *impl.Expr) {
	arg := &e.Arg
	for len(arg.Kids) > 0 && random.Intn(4) > 0 {
		arg = &arg.Kids[random.Intn(len(arg.Kids))]
	}
	switch random.Intn(8) {
	case 0:
		e.Kind += 10
	case 1:
		e.N++
	case 2:
		e.Mod += "A"
	case 3:
		e.Name += "x"
	case 4:
		e.Kids = append([]impl.Expr{number(1)}, e.Kids...)
	case 5:
		arg.Kind += 10
	case 6:
		arg.Name += "t"
	case 7:
		arg.Kids = append([]impl.Type{num}, arg.Kids...)
	}
}

// exprLoop is an expression that contains itself after the given number of levels.
func exprLoop(levels int, leaf impl.Expr) impl.Expr {
	first := []impl.Expr{{}, leaf}
	e := impl.Expr{Kind: impl.ExprApp, Kids: first}
	for range levels - 1 {
		e = call(e, leaf)
	}
	first[0] = e
	return e
}

func TestExprsThatContainThemselves(t *testing.T) {
	for _, levels := range []int{1, 2, 39, 40, 1000} {
		x := exprLoop(levels, number(1))
		for _, e := range append(inEachPlace(x), x) {
			checkInvalidExpr(t, e)
		}
		if !impl.ExprSame(x, exprLoop(levels, number(1))) || !impl.ExprSame(x, exprLoop(levels+4999, number(1))) {
			t.Error("equal expressions that contain themselves are not the same")
		}
		for _, other := range []impl.Expr{exprLoop(levels, number(2)), exprLoop(1, lambda(num, number(1))), call(number(1), number(1)), deep(40)} {
			if impl.ExprSame(x, other) || impl.ExprSame(other, x) {
				t.Error("different expressions that contain themselves are the same")
			}
		}
	}
	a, b := exprLoop(3, lambda(loop(2, num), number(1))), exprLoop(5, lambda(loop(7, num), number(1)))
	if !impl.ExprSame(a, b) || impl.ExprSame(a, exprLoop(3, lambda(loop(2, name("", "t")), number(1)))) || impl.ExprSame(a, exprLoop(3, lambda(num, number(1)))) {
		t.Error("ExprSame is wrong for loops of arguments that contain themselves")
	}
	checkInvalidExpr(t, a)
}

// sharedExpr has two to the power of levels nodes, of which most are the same memory.
func sharedExpr(levels int, leaf impl.Expr) impl.Expr {
	for range levels {
		leaf = sum(leaf, leaf)
	}
	return leaf
}

func TestLargeExprs(t *testing.T) {
	for _, levels := range []int{8, 39, 200} {
		x := sharedExpr(levels, number(1))
		checkInvalidExpr(t, x)
		if !impl.ExprSame(x, sharedExpr(levels, number(1))) || impl.ExprSame(x, sharedExpr(levels, number(2))) {
			t.Error("ExprSame is wrong for expressions with shared parts")
		}
	}
	shared := choice(sharedExpr(4, path("", "x")), sharedExpr(5, path("A", "y")), sharedExpr(4, path("", "x")))
	if !impl.ExprValid(shared) || joinedNames(t, shared) != "x A.y" || !equalExprs(parsedExpr(t, impl.FormatExpr(shared)), shared) {
		t.Error("a valid expression with shared parts is not accepted")
	}
	same := call(lambda(num, number(1)), deep(200000))
	if checkInvalidExpr(t, same); impl.ExprSame(same, call(lambda(num, number(2)), deep(200000))) || !impl.ExprSame(deep(200000), deep(200000)) || impl.ExprSame(deep(200000), deep(200001)) {
		t.Error("ExprSame is wrong for deep expressions")
	}
	wide := func(leaf impl.Type) impl.Expr {
		arg := chain(1000, true, leaf)
		e := impl.Expr{Kind: 77}
		for range 20000 {
			e.Kids = append(e.Kids, lambda(arg, number(1)))
		}
		return e
	}
	if checkInvalidExpr(t, wide(num)); !impl.ExprSame(wide(num), wide(num)) || impl.ExprSame(wide(num), wide(name("", "t"))) {
		t.Error("ExprSame is wrong for many arguments with shared parts")
	}
}

func TestResultsOfExprsAreNewMemory(t *testing.T) {
	const text = "([((I>I)>I)]?<x,A.x,y>+[((I>I)>I)]?<x,A.x,y>)"
	first, second := parsedExpr(t, text), parsedExpr(t, text)
	spoilExpr(first)
	if impl.FormatExpr(second) != text {
		t.Error("results of ParseExpr share memory")
	}
	names := impl.ExprNames(second)
	spoilExpr(impl.Expr{Kids: names})
	if impl.FormatExpr(second) != text || joinedNames(t, second) != "x A.x y" {
		t.Error("a result of ExprNames shares memory")
	}
	spoilExpr(second.Kids[0])
	if got := impl.FormatExpr(second.Kids[1]); got != "[((I>I)>I)]?<x,A.x,y>" {
		t.Errorf("parts of a result of ParseExpr share memory: %s", got)
	}
}

func TestExprArgumentsAreNotChanged(t *testing.T) {
	backing := []impl.Expr{path("", "x"), lambda(fun(num, name("", "t")), variable(0)), path("A", "z"), number(2)}
	kept := copyExpr(impl.Expr{Kids: backing})
	for size := range 4 {
		for kind := range 9 {
			e := impl.Expr{Kind: kind, Kids: backing[:size]}
			impl.ExprValid(e)
			impl.ExprSame(e, impl.Expr{Kind: kind, Kids: backing[4-size:]})
			impl.FormatExpr(e)
			impl.ExprNames(e)
			impl.MaxFree(e)
			if !equalExprs(impl.Expr{Kids: backing}, kept) {
				t.Fatalf("an argument has changed: %v", backing)
			}
		}
	}
}
