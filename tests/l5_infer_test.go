package tests

import (
	"math/rand"
	"slices"
	"strings"
	"testing"

	"loop.example/modlink/impl"
)

// counter has an abstract type with functions, and B another abstract type with the same names.
const counter = "A:{t;z:t;s:(t>t);g:(t>I)} B:{t;z:t;s:(t>t);g:(t>I)} C:{t=A.t;u=(t>B.t);z:t;f:u}"

func checkNoExprType(t *testing.T, scope []impl.Import, code int, exprs ...impl.Expr) {
	t.Helper()
	for _, e := range exprs {
		if got, k := impl.InferExpr(scope, e); k != code || !zeroType(got) {
			t.Errorf("InferExpr(%.80s, %.80s) = %v, %d, want %d", scopeText(scope), impl.FormatExpr(e), got, k, code)
		}
	}
}

func checkNoPrincipal(t *testing.T, scope []impl.Import, code int, structs ...[]impl.Item) {
	t.Helper()
	for _, s := range structs {
		if got, k := impl.InferStruct(scope, s); k != code || len(got) != 0 {
			t.Errorf("InferStruct(%.80s, %.80s) = %v, %d, want %d", scopeText(scope), impl.FormatStruct(s), got, k, code)
		}
	}
}

type inferTest struct {
	text, want string
	code       int
}

// checkInferred checks InferExpr for texts of expressions in a scope, and compares it with replacements in texts.
func checkInferred(t *testing.T, scope string, tests []inferTest) {
	t.Helper()
	for _, test := range tests {
		e := parsedExpr(t, test.text)
		got, code := impl.InferExpr(parsedScope(t, scope), e)
		if code != test.code || impl.FormatType(got) != test.want || code != impl.CheckOk && !zeroType(got) {
			t.Errorf("InferExpr(%s, %s) = %s, %d, want %s, %d", scope, test.text, impl.FormatType(got), code, test.want, test.code)
		}
		if text, code := newTextChecker(scope).inferClosed(e); code != test.code || text != test.want {
			t.Errorf("textChecker(%s).inferClosed(%s) = %s, %d", scope, test.text, text, code)
		}
	}
}

func TestInferExpr(t *testing.T) {
	checkInferred(t, "", []inferTest{
		{"0", "I", impl.CheckOk},
		{"99", "I", impl.CheckOk},
		{"(1+(2+3))", "I", impl.CheckOk},
		{"[I]#0", "(I>I)", impl.CheckOk},
		{"[I][(I>I)]#0", "(I>((I>I)>(I>I)))", impl.CheckOk},
		{"[I][(I>I)]#1", "(I>((I>I)>I))", impl.CheckOk},
		{"[I][(I>I)](#0 #1)", "(I>((I>I)>I))", impl.CheckOk},
		{"[(I>I)][I](#1 (#1 #0))", "((I>I)>(I>I))", impl.CheckOk},
		{"([I](#0+1) 2)", "I", impl.CheckOk},
		{"([(I>I)](#0 1) [I]#0)", "I", impl.CheckOk},
		{"([I][(I>I)]#1 1)", "((I>I)>I)", impl.CheckOk},
		{"?<0,1,2>", "I", impl.CheckOk},
		{"?<1,[I]#0,[I]2>", "(I>I)", impl.CheckOk},
		{"(?<1,[I]#0,[I]2> 3)", "I", impl.CheckOk},
		{"[I]?<#0,#0,?<1,#0,2>>", "(I>I)", impl.CheckOk},
		// Functions within functions have arguments of their own.
		{"([I]#0 ([(I>I)](#0 1) [I]#0))", "I", impl.CheckOk},
		{"[(I>I)](([I][(I>I)](#0 #1) 1) #0)", "((I>I)>I)", impl.CheckOk},
		{"[(I>I)](#0+1)", "", impl.CheckType},
		{"[I]([(I>I)](#0 1) [I]#1)", "(I>I)", impl.CheckOk},
		// Each operand of another type by itself.
		{"(1 2)", "", impl.CheckType},
		{"([I]1 [I]1)", "", impl.CheckType},
		{"([(I>I)]1 1)", "", impl.CheckType},
		{"([(I>I)]1 [(I>I)]1)", "", impl.CheckType},
		{"([(I>I)]1 [I][I]1)", "", impl.CheckType},
		{"((1+2) 3)", "", impl.CheckType},
		{"([I]1+1)", "", impl.CheckType},
		{"(1+[I]1)", "", impl.CheckType},
		{"?<[I]1,2,3>", "", impl.CheckType},
		{"?<1,2,[I]2>", "", impl.CheckType},
		{"?<1,[I]2,2>", "", impl.CheckType},
		{"?<1,[I]2,[(I>I)]2>", "", impl.CheckType},
		{"[I](1 1)", "", impl.CheckType},
		{"([I]1 (1 1))", "", impl.CheckType},
		{"(1+(1 1))", "", impl.CheckType},
		{"?<1,1,(1 1)>", "", impl.CheckType},
	})
}

func TestInferExprWithModules(t *testing.T) {
	checkInferred(t, counter, []inferTest{
		{"A.z", "A.t", impl.CheckOk},
		{"(A.s A.z)", "A.t", impl.CheckOk},
		{"(A.g (A.s (A.s A.z)))", "I", impl.CheckOk},
		{"((A.g A.z)+1)", "I", impl.CheckOk},
		{"[A.t](A.s #0)", "(A.t>A.t)", impl.CheckOk},
		{"?<(A.g A.z),A.s,[A.t]#0>", "(A.t>A.t)", impl.CheckOk},
		// Aliases are transparent.
		{"(A.s C.z)", "A.t", impl.CheckOk},
		{"[C.t](A.s #0)", "(A.t>A.t)", impl.CheckOk},
		{"[C.u](#0 A.z)", "((A.t>B.t)>B.t)", impl.CheckOk},
		{"([C.u](#0 A.z) C.f)", "B.t", impl.CheckOk},
		{"([C.u](#0 A.z) [A.t]B.z)", "B.t", impl.CheckOk},
		{"(B.g (C.f A.z))", "I", impl.CheckOk},
		{"?<1,C.z,A.z>", "A.t", impl.CheckOk},
		{"?<1,[A.t]1,[C.t]2>", "(A.t>I)", impl.CheckOk},
		// Abstract types are equal to themselves only.
		{"(A.s B.z)", "", impl.CheckType},
		{"(B.s C.z)", "", impl.CheckType},
		{"(C.f B.z)", "", impl.CheckType},
		{"([A.t]1 B.z)", "", impl.CheckType},
		{"?<1,A.z,B.z>", "", impl.CheckType},
		{"?<1,A.s,B.s>", "", impl.CheckType},
		{"?<A.z,1,2>", "", impl.CheckType},
		{"(A.z+1)", "", impl.CheckType},
		{"(1+A.z)", "", impl.CheckType},
		{"(A.s 0)", "", impl.CheckType},
		{"(A.z A.z)", "", impl.CheckType},
		{"([I]1 A.z)", "", impl.CheckType},
		// Names that are not known.
		{"D.x", "", impl.CheckName},
		{"A.x", "", impl.CheckName},
		{"A.t", "", impl.CheckName},
		{"[D.t]1", "", impl.CheckName},
		{"[A.u]1", "", impl.CheckName},
		{"[A.z]1", "", impl.CheckName},
		{"[(A.t>D.t)]1", "", impl.CheckName},
		{"(A.s D.x)", "", impl.CheckName},
		{"?<1,A.z,D.x>", "", impl.CheckName},
	})
	// What is concrete in one module may be compared with numbers.
	checkInferred(t, "A:{t=I;z:t;s:(t>t)}", []inferTest{{"((A.s A.z)+1)", "I", impl.CheckOk}, {"(A.s 1)", "I", impl.CheckOk}, {"[A.t](#0+1)", "(I>I)", impl.CheckOk}})
}

// TestNamesAndVariablesWithoutAPlace has expressions whose other parts do not matter.
func TestNamesAndVariablesWithoutAPlace(t *testing.T) {
	for _, part := range []string{"x", "t", "[t]1", "[(I>t)]1", "#0", "#12", "[I]#1", "[I][I](#0 #2)", "[I]x", "[A.t][t]1"} {
		for _, around := range []string{"*", "[I](1 *)", "([I]1 *)", "(* D.x)", "(D.x *)", "((1 1) *)", "(* (1 1))", "([I]1+*)", "(D.x+*)", "?<[I]1,1,*>", "?<1,(1 1),*>", "?<*,D.x,1>", "[D.t]*", "([B.v]1 *)", "(B.y *)"} {
			text := strings.Replace(around, "*", part, 1)
			if impl.MaxFree(parsedExpr(t, text)) == 0 && strings.Contains(part, "#") {
				continue // a function around it, to which the variable refers
			}
			checkInferred(t, "A:{t;u="+fullText(6, "t")+"} B:{v=(A.u>A.u);y:v}", []inferTest{{text, "", impl.CheckName}})
		}
	}
}

// TestFirstOperandDecides puts operands that have no type for different reasons beside each other.
func TestFirstOperandDecides(t *testing.T) {
	scope := "A:{t;u=" + fullText(6, "t") + "} B:{v=(A.u>A.u);y:v}"
	wrong := map[string]int{"D.x": impl.CheckName, "A.x": impl.CheckName, "[D.t]1": impl.CheckName, "(1 1)": impl.CheckType, "?<1,2,[I]2>": impl.CheckType, "B.y": impl.CheckLarge, "[B.v]1": impl.CheckLarge, "[A.u]1": impl.CheckLarge}
	for first, code := range wrong {
		for _, around := range []string{"*", "[I]*", "(* 1)", "([I]1 *)", "(1 *)", "(*+1)", "(1+*)", "?<*,1,2>", "?<1,*,2>", "?<1,2,*>", "?<1,[I]1,*>"} {
			checkInferred(t, scope, []inferTest{{strings.Replace(around, "*", first, 1), "", code}})
		}
		// Something that is no function, no number or of another type is found before what follows.
		for _, around := range []string{"([I]1+*)", "?<[I]1,*,1>", "?<[I]1,1,*>", "((1 1) *)", "(?<1,2,[I]1>+*)"} {
			checkInferred(t, scope, []inferTest{{strings.Replace(around, "*", first, 1), "", impl.CheckType}})
		}
		checkInferred(t, scope, []inferTest{
			{"[D.t]" + first, "", impl.CheckName},
			{"[B.v]" + first, "", impl.CheckLarge},
			{"[(B.v>D.t)]" + first, "", impl.CheckName},
		})
		for second := range wrong {
			for _, pattern := range []string{"(* *)", "(*+*)", "?<*,*,1>", "?<1,*,*>", "?<*,1,*>", "?<1,(*+1),*>"} {
				checkInferred(t, scope, []inferTest{{strings.Replace(strings.Replace(pattern, "*", first, 1), "*", second, 1), "", code}})
			}
		}
	}
}

// TestInferredTypeLimits has functions whose types are within the limits, or one past them.
func TestInferredTypeLimits(t *testing.T) {
	for depth := 5; depth <= 10; depth++ {
		text, want, code := strings.Repeat("[I]", depth-1)+"1", chainText(depth), impl.CheckOk
		if depth > 8 {
			want, code = "", impl.CheckLarge
		}
		checkInferred(t, "", []inferTest{{text, want, code}, {"?<1," + text + "," + text + ">", want, code}})
		if depth == 8 {
			want, code = "", impl.CheckLarge // the function that is called has another level
		}
		checkInferred(t, "", []inferTest{{"([I]" + text + " 1)", want, code}})
	}
	half, more := fullText(5, "I"), "("+fullText(4, "I")+">("+fullText(3, "I")+">("+fullText(2, "I")+">(I>(I>I)))))"
	checkInferred(t, "", []inferTest{
		{"[" + half + "]#0", "(" + half + ">" + half + ")", impl.CheckOk},
		{"[" + more + "]#0", "", impl.CheckLarge},
		{"[" + more + "]1", "(" + more + ">I)", impl.CheckOk},
		{"[" + half + "][" + half + "]1", "", impl.CheckLarge},
		{"[" + half + "]([" + half + "]1 #0)", "(" + half + ">I)", impl.CheckOk},
		{"[" + fullText(6, "I") + "]1", "", impl.CheckLarge},
		{"[" + chainText(7) + "]1", "(" + chainText(7) + ">I)", impl.CheckOk},
		{"[" + chainText(8) + "]1", "", impl.CheckLarge},
		{"[I]([" + chainText(7) + "]1 1)", "", impl.CheckType},
	})
	// Nothing but types of functions gets larger on the way.
	checkInferred(t, "A:{x:"+fullText(6, "I")+";f:("+half+">"+half+");y:"+half+"}", []inferTest{
		{"A.x", fullText(6, "I"), impl.CheckOk},
		{"(A.f A.y)", half, impl.CheckOk},
		{"?<1,A.x,A.x>", fullText(6, "I"), impl.CheckOk},
		{"[I]A.x", "", impl.CheckLarge},
		{"([I]A.x 1)", "", impl.CheckLarge},
	})
}

// TestLargestExprs has expressions with as many nodes, levels and variables as a valid one may have.
func TestLargestExprs(t *testing.T) {
	e := number(1)
	for range 39 {
		e = call(lambda(num, variable(0)), e)
		if impl.ExprValid(e) {
			if got, code := impl.InferExpr(nil, e); code != impl.CheckOk || impl.FormatType(got) != "I" {
				t.Errorf("InferExpr(%s) = %s, %d", impl.FormatExpr(e), impl.FormatType(got), code)
			}
		}
	}
	e = sum(sharedExpr(7, number(1)), sharedExpr(6, number(2))) // 255 and 127 nodes
	if got, code := impl.InferExpr(nil, e); code != impl.CheckOk || impl.FormatType(got) != "I" {
		t.Errorf("InferExpr of a large sum = %s, %d", impl.FormatType(got), code)
	}
	for n := range 13 {
		text := "#" + impl.FormatExpr(number(n))
		for i := range 13 {
			// The type of the function at this place is known by its argument, and applied at once.
			arg, value := "I", "1"
			if i == n {
				arg, value = "(I>I)", "[I]#0"
			}
			text = "([" + arg + "]" + text + " " + value + ")"
		}
		checkInferred(t, "", []inferTest{{text, "(I>I)", impl.CheckOk}})
	}
	// Each step around a function loses it, so the type stays small although 39 of them are around each other.
	deep := "1"
	for range 19 {
		deep = "([I]" + deep + " 1)"
	}
	checkInferred(t, "", []inferTest{{deep, "I", impl.CheckOk}})
}

func TestInferInvalidExprs(t *testing.T) {
	scope := parsedScope(t, counter)
	for _, e := range append(invalidExprs(), deep(41), exprLoop(1, number(1)), exprLoop(1000, path("A", "z")), sharedExpr(200, number(1)), lambda(loop(1, num), number(1)), lambda(sharedType(200, num), number(1)), deep(200000)) {
		checkNoExprType(t, scope, impl.CheckInvalid, e, lambda(num, e), call(number(1), e), sum(path("D", "x"), e), choice(variable(0), e, number(1)))
		checkNoExprType(t, nil, impl.CheckInvalid, e)
		checkNoPrincipal(t, scope, impl.CheckInvalid, defs(valDef("x", e)))
	}
	e := sum(sharedExpr(4, call(path("A", "g"), path("A", "z"))), number(1))
	if got, code := impl.InferExpr(scope, e); code != impl.CheckOk || impl.FormatType(got) != "I" {
		t.Errorf("an expression with shared parts has the type %s, %d", impl.FormatType(got), code)
	}
}

func TestInferStruct(t *testing.T) {
	checkPrincipals(t, counter, []inferTest{
		{"{}", "{}", impl.CheckOk},
		{"{t=I;z:=0;s:=[t](#0+1)}", "{t=I;z:I;s:(I>I)}", impl.CheckOk},
		{"{t=A.t;x:=(A.s A.z);y:=(A.g x);f:=[t]#0}", "{t=A.t;x:A.t;y:I;f:(A.t>A.t)}", impl.CheckOk},
		{"{t=C.t;u=(t>C.u);x:=[u](#0 A.z)}", "{t=A.t;u=(A.t>(A.t>B.t));x:((A.t>(A.t>B.t))>(A.t>B.t))}", impl.CheckOk},
		{"{t=I;u=(t>t);v=(u>t);f:=[v](#0 [u](#0 1))}", "", impl.CheckType},
		{"{t=I;u=(t>t);v=(u>t);f:=[v](#0 [t]#0)}", "{t=I;u=(I>I);v=((I>I)>I);f:(((I>I)>I)>I)}", impl.CheckOk},
		{"{x:=1;y:=[I](#0+x);z:=(y x)}", "{x:I;y:(I>I);z:I}", impl.CheckOk},
		// Local types and values hide nothing, and have nothing to do with each other.
		{"{t=I;x:=[A.t]#0;y:=[t]#0}", "{t=I;x:(A.t>A.t);y:(I>I)}", impl.CheckOk},
		{"{t=I;z:=0;x:=(A.s A.z);y:=(z+1)}", "{t=I;z:I;x:A.t;y:I}", impl.CheckOk},
		{"{t=I;x:=(A.s 1)}", "", impl.CheckType},
		{"{t=I;z:=0;x:=(A.z+1)}", "", impl.CheckType},
		{"{t=A.t;t:=1;x:=[t](t+1)}", "{t=A.t;t:I;x:(A.t>I)}", impl.CheckOk},
		{"{z:=1;z=B.t;y:=[z]B.s;w:=z}", "{z:I;z=B.t;y:(B.t>(B.t>B.t));w:I}", impl.CheckOk},
		{"{u=(A.t>A.t);t=B.t;v=u;x:=[v][t]#1}", "{u=(A.t>A.t);t=B.t;v=(A.t>A.t);x:((A.t>A.t)>(B.t>(A.t>A.t)))}", impl.CheckOk},
		// A type has the meaning of its definition, not of an abstract type.
		{"{t=I;x:=[t](#0+1);y:=(x 1)}", "{t=I;x:(I>I);y:I}", impl.CheckOk},
		{"{t=A.t;u=C.t;x:=[t]#0;y:=([u]1 A.z)}", "{t=A.t;u=A.t;x:(A.t>A.t);y:I}", impl.CheckOk},
		// What has no type.
		{"{t=D.t}", "", impl.CheckName},
		{"{t=A.u}", "", impl.CheckName},
		{"{t=A.z}", "", impl.CheckName},
		{"{x:=D.x}", "", impl.CheckName},
		{"{x:=A.t}", "", impl.CheckName},
		{"{x:=[D.t]1}", "", impl.CheckName},
		{"{x:=(1 1)}", "", impl.CheckType},
		{"{x:=1;y:=(x x)}", "", impl.CheckType},
		{"{x:=[I]1;y:=(x+1)}", "", impl.CheckType},
		{"{t=A.t;x:=([t]1 1)}", "", impl.CheckType},
		{"{t=A.t;x:=([t]1 B.z)}", "", impl.CheckType},
		// The first definition without a type decides.
		{"{x:=(1 1);y:=D.x;t=D.t}", "", impl.CheckType},
		{"{y:=D.x;x:=(1 1)}", "", impl.CheckName},
		{"{t=D.t;x:=(1 1)}", "", impl.CheckName},
		{"{t=I;x:=1;u=t;v=(u>D.t);y:=(1 1)}", "", impl.CheckName},
	})
}

func checkPrincipals(t *testing.T, scope string, tests []inferTest) {
	t.Helper()
	for _, test := range tests {
		s := parsedStruct(t, test.text)
		got, code := impl.InferStruct(parsedScope(t, scope), s)
		text := ""
		if code == impl.CheckOk {
			text = impl.FormatSig(got)
		}
		if code != test.code || text != test.want || code != impl.CheckOk && len(got) != 0 {
			t.Errorf("InferStruct(%s, %s) = %s, %d, want %s, %d", scope, test.text, impl.FormatSig(got), code, test.want, test.code)
		}
		if text, code := newTextChecker(scope).principal(s); code != test.code || text != test.want {
			t.Errorf("textChecker(%s).principal(%s) = %s, %d", scope, test.text, text, code)
		}
	}
}

func TestPrincipalItemsLimit(t *testing.T) {
	var structs, sigs []string
	for i := range 11 {
		n := "abcdefghijk"[i : i+1]
		if i%2 == 0 {
			structs, sigs = append(structs, n+"=A.t"), append(sigs, n+"=A.t")
		} else {
			structs, sigs = append(structs, n+":=[a]A.z"), append(sigs, n+":(A.t>A.t)")
		}
	}
	for count := 1; count <= 10; count++ {
		want, code := "{"+strings.Join(sigs[:count], ";")+"}", impl.CheckOk
		if count > 8 {
			want, code = "", impl.CheckLarge
		}
		text := "{" + strings.Join(structs[:count], ";") + "}"
		checkPrincipals(t, counter, []inferTest{{text, want, code}})
		// A definition without a type comes before the number of items, even the last one.
		for _, wrong := range []inferTest{{"z:=D.x", "", impl.CheckName}, {"z=D.t", "", impl.CheckName}, {"z:=(1 1)", "", impl.CheckType}} {
			if count < 10 {
				checkPrincipals(t, counter, []inferTest{{text[:len(text)-1] + ";" + wrong.text + "}", "", wrong.code}})
			}
		}
	}
	var eleven []impl.Item
	for i := range 11 {
		eleven = append(eleven, typeDef("abcdefghijk"[i:i+1], num))
	}
	checkNoPrincipal(t, nil, impl.CheckInvalid, eleven)
}

// TestTypeLimitsInPrincipals has types that are within the limits, but not all of them when they are put in.
func TestTypeLimitsInPrincipals(t *testing.T) {
	all := "((" + quarter + ">" + quarter + ")>(" + quarter + ">" + quarter + "))"
	checkPrincipals(t, "A:{t="+quarter+"} B:{u=((A.t>A.t)>(A.t>A.t));x:u}", []inferTest{
		{"{t=" + quarter + ";u=((t>t)>(t>t))}", "{t=" + quarter + ";u=" + all + "}", impl.CheckOk},
		{"{t=A.t;u=((t>t)>(t>A.t))}", "{t=" + quarter + ";u=" + all + "}", impl.CheckOk},
		{"{u=B.u;x:=B.x}", "{u=" + all + ";x:" + all + "}", impl.CheckOk},
		{"{t=" + quarter + ";u=((t>t)>(t>(t>I)))}", "", impl.CheckLarge},
		{"{t=A.t;u=((t>t)>(t>(A.t>I)))}", "", impl.CheckLarge},
		{"{u=(B.u>I)}", "", impl.CheckLarge},
		{"{u=B.u;v=(u>I)}", "", impl.CheckLarge},
		{"{u=B.u;x:=[u]1}", "", impl.CheckLarge},
		{"{u=B.u;x:=([(u>I)]1 1)}", "", impl.CheckLarge},
		{"{u=A.t;x:=[(u>u)](#0+1)}", "", impl.CheckType},
		{"{u=A.t;x:=[(u>u)]#0}", "{u=" + quarter + ";x:((" + quarter + ">" + quarter + ")>(" + quarter + ">" + quarter + "))}", impl.CheckOk},
		{"{t=" + chainText(5) + ";u=(I>(I>(I>t)))}", "{t=" + chainText(5) + ";u=" + chainText(8) + "}", impl.CheckOk},
		{"{t=" + chainText(5) + ";u=(I>(I>(I>(I>t))))}", "", impl.CheckLarge},
		{"{t=" + chainText(5) + ";x:=([(I>(I>(I>(I>t))))]1 1)}", "", impl.CheckLarge},
		// The first definition without a type decides, and local types are put in before names are looked up.
		{"{u=(B.u>I);x:=(1 1)}", "", impl.CheckLarge},
		{"{x:=(1 1);u=(B.u>I)}", "", impl.CheckType},
		{"{x:=D.x;u=(B.u>I)}", "", impl.CheckName},
		{"{u=(B.u>D.t)}", "", impl.CheckName},
		{"{u=B.u;v=(u>D.t)}", "", impl.CheckLarge},
		{"{u=B.u;x:=[(u>D.t)]1}", "", impl.CheckLarge},
		{"{u=B.u;x:=(D.x [(u>I)]1)}", "", impl.CheckName},
	})
}

func TestInferInvalidStructs(t *testing.T) {
	scope := parsedScope(t, counter)
	first, last := typeDef("t", num), valDef("y", path("D", "x"))
	for _, x := range invalidDefs() {
		checkNoPrincipal(t, scope, impl.CheckInvalid, defs(x), defs(first, x), defs(last, x), defs(first, x, last))
		checkNoPrincipal(t, nil, impl.CheckInvalid, defs(x))
	}
	for _, text := range [][]impl.Item{defs(first, first), defs(valDef("x", number(1)), valDef("x", number(1))), defs(valDef("x", path("", "y")), valDef("y", number(1))), defs(valDef("x", lambda(name("", "t"), number(1))), first), slices.Repeat(defs(first), 1000000)} {
		checkNoPrincipal(t, scope, impl.CheckInvalid, text)
	}
	part := lambda(full(3, name("A", "t")), path("A", "z"))
	if got, code := impl.InferStruct(scope, defs(valDef("x", part), valDef("y", part))); code != impl.CheckOk || impl.FormatSig(got) != "{x:("+fullText(3, "A.t")+">A.t);y:("+fullText(3, "A.t")+">A.t)}" {
		t.Errorf("a structure with shared parts has the signature %s, %d", impl.FormatSig(got), code)
	}
}

// TestRandomTypedExprs makes expressions that have a type by the rules, with aliases in place of what
// they mean, and then changes them.
func TestRandomTypedExprs(t *testing.T) {
	random := rand.New(rand.NewSource(19))
	typed, codes := 0, map[int]int{}
	for range 8000 {
		text := randomScopeText(random, 2+random.Intn(4))
		scope, c := parsedScope(t, text), newTextChecker(text)
		m := newExprMaker(random, c)
		want := m.pick(m.types)
		made := m.expr(want, nil, 1+random.Intn(5))
		e, ok := impl.ParseExpr(made)
		if !ok {
			continue
		}
		got, code := impl.InferExpr(scope, e)
		if wanted, k := c.inferClosed(e); k != code || wanted != impl.FormatType(got) {
			t.Fatalf("InferExpr(%s, %s) = %s, %d, want %s, %d", text, made, impl.FormatType(got), code, wanted, k)
		}
		// A function on the way may have a type that is too large.
		if code != impl.CheckLarge && (code != impl.CheckOk || impl.FormatType(got) != want) {
			t.Fatalf("InferExpr(%s, %s) = %s, %d, want %s", text, made, impl.FormatType(got), code, want)
		}
		typed++
		for range 3 {
			changeLeaf(random, &e, c)
			wanted, k := c.inferClosed(e)
			if got, code := impl.InferExpr(scope, e); code != k || impl.FormatType(got) != wanted {
				t.Fatalf("InferExpr(%s, %s) = %s, %d, want %s, %d", text, impl.FormatExpr(e), impl.FormatType(got), code, wanted, k)
			}
			codes[k]++
		}
	}
	if typed < 4000 {
		t.Errorf("only %d expressions have been made", typed)
	}
	checkCodes(t, codes, impl.CheckOk, impl.CheckName, impl.CheckType, impl.CheckLarge)
}

// changeLeaf gives one node of an expression another name, number, type or index, so that it stays valid.
func changeLeaf(random *rand.Rand, e *impl.Expr, c textChecker) {
	for len(e.Kids) > 0 && (e.Kind != impl.ExprFun || random.Intn(4) > 0) {
		e = &e.Kids[random.Intn(len(e.Kids))]
	}
	names := append([]string{"A.t", "D.x", "E.y"}, mapKeys(c.vals)...)
	n := names[random.Intn(len(names))]
	switch kind := random.Intn(8); {
	case e.Kind == impl.ExprFun:
		leaves := append([]string{"I", "I", "E.v"}, mapKeys(c.types)...)
		e.Arg, _ = impl.ParseType(randomTypeOver(random, leaves, 2+random.Intn(4)))
	case kind == 0:
		*e = number(random.Intn(100))
	case kind == 1:
		*e = variable(random.Intn(3))
	case kind == 2 && random.Intn(5) == 0:
		*e = path("", "x")
	case kind < 5 && n != "":
		*e = path(n[:1], n[2:])
	}
}

// TestRandomPrincipals makes structures whose values have types by the rules, and then changes them.
func TestRandomPrincipals(t *testing.T) {
	random := rand.New(rand.NewSource(20))
	codes := map[int]int{}
	for range 8000 {
		text := randomScopeText(random, 2+random.Intn(3))
		scope, c := parsedScope(t, text), newTextChecker(text)
		body := randomTypedStruct(random, c)
		s, ok := impl.ParseStruct(body)
		if !ok {
			t.Fatalf("ParseStruct rejects %s", body)
		}
		for range 3 {
			want, code := c.principal(s)
			got, k := impl.InferStruct(scope, s)
			if k != code || code == impl.CheckOk && impl.FormatSig(got) != want || code != impl.CheckOk && len(got) != 0 {
				t.Fatalf("InferStruct(%s, %s) = %s, %d, want %s, %d", text, impl.FormatStruct(s), impl.FormatSig(got), k, want, code)
			}
			codes[code]++
			if code == impl.CheckOk {
				checkPrincipal(t, scope, got)
			}
			s = changedStruct(random, s, c)
		}
	}
	checkCodes(t, codes, impl.CheckOk, impl.CheckName, impl.CheckType, impl.CheckLarge)
}

// checkPrincipal checks that a principal signature is resolved, normal, and equal to itself.
func checkPrincipal(t *testing.T, scope []impl.Import, s []impl.SigItem) {
	t.Helper()
	resolved, code := impl.ResolveSig(scope, s)
	normal, ok := impl.NormalSig(s)
	if code != impl.CheckOk || !ok || !equalSigs(resolved, s) || !equalSigs(normal, s) || impl.MatchIn(scope, s, s) != impl.MatchOk {
		t.Fatalf("%s is resolved to %s, %d", impl.FormatSig(s), impl.FormatSig(resolved), code)
	}
	for _, item := range s {
		for _, n := range impl.TypeNames(item.Type) {
			if n.Mod == "" || item.Kind == impl.SigAbstract {
				t.Fatalf("%s is no principal signature", impl.FormatSig(s))
			}
		}
	}
}

// randomTypedStruct makes the text of a structure whose values have types unless one is too large.
func randomTypedStruct(random *rand.Rand, c textChecker) string {
	c.local = map[string]string{}
	m := newExprMaker(random, c)
	leaves := append([]string{"I"}, mapKeys(c.types)...)
	var parts []string
	used := map[string]bool{}
	for range random.Intn(11) {
		n := string("tuvwxyz"[random.Intn(7)])
		isType := random.Intn(3) == 0
		if used[n+"="] && isType || used[n] && !isType {
			continue
		}
		if isType {
			typ := randomTypeOver(random, leaves, 3)
			resolved, code := c.resolveHere(typ)
			if code == impl.CheckOk {
				c.local[n] = resolved
				m.names[resolved], m.types = append(m.names[resolved], n), append(m.types, resolved)
				leaves, parts, used[n+"="] = append(leaves, n, n), append(parts, n+"="+typ), true
			}
			continue
		}
		want := m.pick(m.types)
		if made := m.expr(want, nil, 1+random.Intn(4)); isClosedOver(made, localNames(used, true), localNames(used, false)) {
			m.vals[want], m.types = append(m.vals[want], n), append(m.types, want)
			parts, used[n] = append(parts, n+":="+made), true
		}
	}
	return "{" + strings.Join(parts, ";") + "}"
}

// localNames returns the names of types, or of values, that are used.
func localNames(used map[string]bool, types bool) string {
	names := ""
	for key := range used {
		if strings.HasSuffix(key, "=") == types {
			names += key[:1]
		}
	}
	return names
}

// changedStruct changes a leaf of one definition, if the structure stays valid.
func changedStruct(random *rand.Rand, s []impl.Item, c textChecker) []impl.Item {
	if len(s) == 0 {
		return s
	}
	changed := copyStruct(s)
	d := &changed[random.Intn(len(changed))]
	if d.Kind == impl.ItemVal {
		changeLeaf(random, &d.Expr, c)
	} else {
		d.Type, _ = impl.ParseType(randomTypeOver(random, append([]string{"I", "E.v"}, mapKeys(c.types)...), 4))
	}
	if !impl.StructValid(changed) {
		return s
	}
	return changed
}

func TestResultsOfCheckingAreNewMemory(t *testing.T) {
	const text = "A:{t;u=((t>t)>t);x:u;f:(u>u)} B:{v=A.u;y:v}"
	scope := parsedScope(t, text)
	kept := copyScope(scope)
	arg, sig, body := parsed(t, "(A.u>(A.u>(I>t)))"), parsedSig(t, "{t;u=A.u;v=A.u;x:(A.u>I);y:(I>I)}"), parsedStruct(t, "{t=A.u;u=t;x:=A.x;y:=[A.u](A.f x);z:=x}")
	for i, f := range []func() (impl.Type, int){
		func() (impl.Type, int) { return impl.ResolveType(scope, arg) },
		func() (impl.Type, int) { return impl.ResolveType(scope, name("B", "v")) },
		func() (impl.Type, int) { return impl.PathType(scope, "A", "f") },
		func() (impl.Type, int) { return impl.InferExpr(scope, parsedExpr(t, "[B.v](A.f #0)")) },
		func() (impl.Type, int) { return impl.InferExpr(scope, parsedExpr(t, "B.y")) },
	} {
		first, code := f()
		second, _ := f()
		want := impl.FormatType(second)
		spoil(first)
		if code != impl.CheckOk || impl.FormatType(second) != want || !equalScopes(scope, kept) || impl.FormatType(arg) != "(A.u>(A.u>(I>t)))" {
			t.Errorf("%d: results share memory", i)
		}
		if len(second.Kids) == 2 {
			right := impl.FormatType(second.Kids[1])
			spoil(second.Kids[0])
			if impl.FormatType(second.Kids[1]) != right {
				t.Errorf("%d: parts of one result share memory", i)
			}
		}
	}
	keptSig, keptBody := copySig(sig), copyStruct(body)
	for i, f := range []func() ([]impl.SigItem, int){
		func() ([]impl.SigItem, int) { return impl.ResolveSig(scope, sig) },
		func() ([]impl.SigItem, int) { return impl.ResolveSig(nil, parsedSig(t, "{t;y:((I>I)>t)}")) },
		func() ([]impl.SigItem, int) { return impl.InferStruct(scope, body) },
	} {
		first, code := f()
		second, _ := f()
		kept2 := copySig(second)
		spoilSig(first)
		if code != impl.CheckOk || !equalSigs(second, kept2) || !equalScopes(scope, kept) || !equalSigs(sig, keptSig) || !equalStructs(body, keptBody) {
			t.Errorf("%d: results share memory", i)
		}
		for j := range second {
			spoil(second[j].Type)
			if !equalSigs(second[j+1:], kept2[j+1:]) {
				t.Errorf("%d: items of one result share memory", i)
			}
		}
	}
}

func TestCheckArgumentsAreNotChanged(t *testing.T) {
	backing := append(parsedScope(t, counter), module("A", items(abstract("t"))), module("D", items(val("x", name("C", "u")))))
	sig := items(abstract("t"), val("x", name("C", "u")), alias("u", name("A", "t")), val("y", name("", "u")), val("z", name("D", "t")))
	body := defs(typeDef("t", name("C", "u")), valDef("x", path("A", "z")), valDef("y", lambda(name("", "t"), path("", "x"))), valDef("z", variable(0)))
	keptScope, keptSig, keptBody := copyScope(backing), copySig(sig), copyStruct(body)
	for size := range len(backing) + 1 {
		scope := backing[:size]
		impl.ScopeValid(scope)
		for i := range len(sig) + 1 {
			impl.ResolveSig(scope, sig[:i])
			impl.MatchIn(scope, sig[:i], sig)
			impl.MatchIn(scope, sig, sig[:i])
			impl.MatchIn(scope, sig[:i], sig[:i/2])
		}
		for i, d := range body {
			impl.ResolveType(scope, d.Type)
			impl.InferExpr(scope, d.Expr)
			impl.InferStruct(scope, body[:i])
			impl.InferStruct(scope, body[:i+1])
			impl.PathType(scope, "C", d.Name)
		}
		if !equalScopes(backing, keptScope) || !equalSigs(sig, keptSig) || !equalStructs(body, keptBody) {
			t.Fatalf("an argument has changed: %v, %v, %v", backing, sig, body)
		}
	}
}

// TestSharedScopes has one signature in several modules, and empty slices in place of nil.
func TestSharedScopes(t *testing.T) {
	sig := parsedSig(t, "{t;u=((t>t)>t);x:u}")
	scope := modules(module("A", sig), module("B", sig), module("C", []impl.SigItem{}), module("D", sig[:1]))
	for path, want := range map[string]string{"A.x": "((A.t>A.t)>A.t)", "B.x": "((B.t>B.t)>B.t)"} {
		if got, code := impl.PathType(scope, path[:1], path[2:]); code != impl.CheckOk || impl.FormatType(got) != want {
			t.Errorf("PathType of %s = %s, %d", path, impl.FormatType(got), code)
		}
	}
	if !impl.ScopeValid(scope) || !impl.ScopeValid([]impl.Import{}) || !impl.ScopeValid(nil) {
		t.Error("a scope with shared or empty signatures is not valid")
	}
	if got, code := impl.ResolveSig([]impl.Import{}, []impl.SigItem{}); code != impl.CheckOk || len(got) != 0 {
		t.Errorf("ResolveSig of nothing = %v, %d", got, code)
	}
	if got, code := impl.InferStruct([]impl.Import{}, []impl.Item{}); code != impl.CheckOk || len(got) != 0 {
		t.Errorf("InferStruct of nothing = %v, %d", got, code)
	}
	if impl.MatchIn(scope, sig, sig) != impl.MatchOk || impl.MatchIn(scope, sig, sig[:1]) != impl.MatchOk || impl.MatchIn(scope, sig[:1], sig) != impl.MatchMissing {
		t.Error("MatchIn is wrong for signatures of the scope")
	}
}
