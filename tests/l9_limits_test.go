package tests

import (
	"strings"
	"testing"

	"loop.example/modlink/impl"
)

// sizedNum is the text of an expression of the type of numbers with this number of nodes, which is not 2.
func sizedNum(count int) string {
	if count%2 == 0 {
		return "?<1,1," + sizedNum(count-3) + ">"
	}
	return impl.FormatExpr(sumOf(count / 2))
}

// deepNum is the text of a sum of this depth.
func deepNum(depth int) string {
	return strings.Repeat("(1+", depth-1) + "1" + strings.Repeat(")", depth-1)
}

// checkLinkCode checks all functions for a program that checks, and the codes of LinkTypes, which is that of
// LinkDefs, and of LinkMain.
func checkLinkCode(t *testing.T, lines string, code, mainCode int) {
	t.Helper()
	text := linesText(lines)
	if r := checkProgram(t, text); r.code != impl.ProgOk {
		t.Fatalf("%.300q does not check: %d, %d", text, r.code, r.at)
	}
	p := parsedProgram(t, text)
	if _, got := impl.LinkTypes(p); got != code {
		t.Errorf("LinkTypes(%.300q) = %d, want %d", text, got, code)
	}
	if _, got := impl.LinkDefs(p); got != code {
		t.Errorf("LinkDefs(%.300q) = %d, want %d", text, got, code)
	}
	if _, got := impl.LinkMain(p); got != mainCode {
		t.Errorf("LinkMain(%.300q) = %d, want %d", text, got, mainCode)
	}
}

func codeFor(within bool) int {
	if within {
		return impl.LinkOk
	}
	return impl.LinkLarge
}

// checkValuePlaces puts a value in the place of the name in an expression, which is that of a definition or of the program.
func checkValuePlaces(t *testing.T, value, expr string, within bool) {
	t.Helper()
	with := func(lines string) string {
		for _, n := range []string{"A.x", "P.x", "B.x", "x"} {
			lines = strings.ReplaceAll(lines, "<"+n+">", strings.ReplaceAll(expr, "*", n))
		}
		return strings.ReplaceAll(lines, "<>", value)
	}
	code := codeFor(within)
	for _, lines := range []string{
		"A:{x:I}={x:=<>}|C:{}={y:=<A.x>}|main 1",
		"A:{}={x:=<>;y:=<x>}|main 1",
		"A:{x:I}={h:=<>;x:=h}|C:{}={y:=<A.x>}|main 1",
		"F(P:{x:I}):{}={y:=<P.x>}|A:{x:I}={x:=<>}|B=F(A)|main 1",
		"F(P:{x:I}):{}={x:=P.x;y:=<x>}|A:{x:I}={x:=<>}|B=F(A)|main 1",
		"F(P:{}):{x:I}={x:=<>}|A:{}={}|B=F(A)|C:{}={y:=<B.x>}|main 1",
		"F(P:{x:I})(Q:{x:I}):{}={y:=<P.x>}|A:{x:I}={x:=<>}|C:{x:I}={x:=1}|B=F(A)(C)|main A.x",
	} {
		checkLinkCode(t, with(lines), code, code)
	}
	checkLinkCode(t, with("A:{x:I}={x:=<>}|main <A.x>"), impl.LinkOk, code)
	checkLinkCode(t, with("F(P:{}):{x:I}={x:=<>}|A:{}={}|B=F(A)|main <B.x>"), impl.LinkOk, code)
	// A functor that is not used is not linked, and its parameters are not known.
	checkLinkCode(t, with("A:{x:I}={x:=<>}|F(P:{x:I}):{}={y:=<P.x>}|C:{x:I}={x:=1}|B=F(C)|main 1"), impl.LinkOk, impl.LinkOk)
	checkLinkCode(t, with("A:{x:I}={x:=<>}|F(P:{}):{}={y:=<A.x>}|main 1"), impl.LinkOk, impl.LinkOk)
}

func TestLinkedExprNodes(t *testing.T) {
	for count := 396; count <= 400; count++ {
		for expr, more := range map[string]int{"*": 0, "[I]*": 1, "[I][I]*": 2, "(*+1)": 2, "(1+*)": 2, "?<*,1,1>": 3, "?<1,*,1>": 3, "?<1,1,*>": 3, "([I]* 1)": 3, "([I]#0 *)": 3, "[(I>I)](#0 *)": 3} {
			checkValuePlaces(t, sizedNum(count), expr, count+more <= 400)
		}
	}
	for count := 197; count <= 201; count++ {
		checkValuePlaces(t, sizedNum(count), "(*+*)", 2*count+1 <= 400)
		checkValuePlaces(t, sizedNum(count), "[I](*+*)", 2*count+2 <= 400)
		checkValuePlaces(t, sizedNum(count), "([I]#0 (*+*))", 2*count+4 <= 400)
	}
	checkValuePlaces(t, sizedNum(133), "[I](*+(*+*))", false)
	checkValuePlaces(t, sizedNum(132), "[I](*+(*+*))", true)
}

func TestLinkedExprDepth(t *testing.T) {
	for depth := 37; depth <= 40; depth++ {
		for expr, more := range map[string]int{"*": 0, "[I]*": 1, "[I][I]*": 2, "(*+1)": 1, "(1+*)": 1, "?<*,1,1>": 1, "?<1,*,1>": 1, "?<1,1,*>": 1, "([I]* 1)": 2, "([I]#0 *)": 1, "(1+(*+*))": 2, "[I](1+(1+*))": 3} {
			checkValuePlaces(t, deepNum(depth), expr, depth+more <= 40)
		}
	}
}

// TestValuesThatAreUsedOften doubles a value again and again.
func TestValuesThatAreUsedOften(t *testing.T) {
	const doubled = "C:{h:I}={a:=1;b:=(a+a);c:=(b+b);d:=(c+c);e:=(d+d);f:=(e+e);g:=(f+f);h:=(g+g)}" // the last one has 255 nodes
	checkLinkCode(t, doubled+"|main C.h", impl.LinkOk, impl.LinkOk)
	checkLinkCode(t, doubled+"|main (C.h+C.h)", impl.LinkOk, impl.LinkLarge)
	checkLinkCode(t, doubled+"|main ?<1,1,?<1,C.h,C.h>>", impl.LinkOk, impl.LinkLarge)
	checkLinkCode(t, doubled+"|D:{}={x:=(C.h+C.h)}|main 1", impl.LinkLarge, impl.LinkLarge)
	const adder = "F(P:{x:I}):{x:I}={x:=(P.x+P.x)}|A:{x:I}={x:=(1+(1+(1+1)))}"
	// B has 15 nodes, C 31, D 63, E 127, G 255, and H would have 511.
	checkLinkCode(t, adder+"|B=F(A)|C=F(B)|D=F(C)|E=F(D)|G=F(E)|main G.x", impl.LinkOk, impl.LinkOk)
	checkLinkCode(t, adder+"|B=F(A)|C=F(B)|D=F(C)|E=F(D)|G=F(E)|main [I](G.x+E.x)", impl.LinkOk, impl.LinkOk)
	checkLinkCode(t, adder+"|B=F(A)|C=F(B)|D=F(C)|E=F(D)|G=F(E)|main (G.x+G.x)", impl.LinkOk, impl.LinkLarge)
	checkLinkCode(t, adder+"|B=F(A)|C=F(B)|D=F(C)|E=F(D)|G=F(E)|H=F(G)|main 1", impl.LinkLarge, impl.LinkLarge)
	// Very large, if it were written out.
	var defs []string
	for i, n := range strings.Split("abcdefgh", "") {
		sub := "1"
		if i > 0 {
			sub = string("abcdefgh"[i-1])
		}
		defs = append(defs, n+":="+strings.ReplaceAll(impl.FormatExpr(sumOf(199)), "1", sub))
	}
	checkLinkCode(t, "C:{}={"+strings.Join(defs, ";")+"}|main 1", impl.LinkLarge, impl.LinkLarge)
	checkLinkCode(t, "C:{}={"+defs[0]+"}|main 1", impl.LinkOk, impl.LinkOk)
}

// checkTypePlaces puts a type in the place of an abstract one in a type, which is that of a definition or of an argument.
func checkTypePlaces(t *testing.T, typ, around string, within bool) {
	t.Helper()
	with := func(lines string) string {
		for _, n := range []string{"A.t", "P.t", "B.t"} {
			lines = strings.ReplaceAll(lines, "<"+n+">", strings.ReplaceAll(around, "*", n))
		}
		return strings.ReplaceAll(lines, "<>", typ)
	}
	code := codeFor(within)
	for _, lines := range []string{
		"A:{t}={t=<>}|C:{}={u=<A.t>}|main 1",
		"A:{t}={h=<>;t=h}|C:{}={u=A.t;v=<A.t>}|main 1",
		"A:{t}={t=<>}|C:{}={x:=[<A.t>]1}|main 1",
		"A:{t}={t=<>}|C:{}={x:=[I]?<1,[<A.t>]2,[<A.t>]3>}|main 1",
		"A:{t}={t=<>}|C:{u;x:(u>u)}={u=<A.t>;x:=[u]#0}|main 1",
		"F(P:{t}):{}={u=<P.t>}|A:{t}={t=<>}|B=F(A)|main 1",
		"F(P:{t}):{}={x:=[(I>I)][<P.t>]1}|A:{t}={t=<>}|B=F(A)|main 1",
		"F(P:{t})(Q:{t}):{}={u=<P.t>}|A:{t}={t=<>}|C:{t}={t=I}|B=F(A)(C)|main 1",
		"F(P:{}):{t}={t=<>}|A:{}={}|B=F(A)|C:{}={x:=[<B.t>]1}|main 1",
	} {
		checkLinkCode(t, with(lines), code, code)
	}
	checkLinkCode(t, with("A:{t}={t=<>}|main [<A.t>]1"), impl.LinkOk, code)
	checkLinkCode(t, with("F(P:{}):{t}={t=<>}|A:{}={}|B=F(A)|main ?<1,[I][<B.t>]1,[I][<B.t>]2>"), impl.LinkOk, code)
	// A functor that is not used is not linked.
	checkLinkCode(t, with("F(P:{t}):{}={u=<P.t>;x:=[u]1}|A:{t}={t=<>}|main 1"), impl.LinkOk, impl.LinkOk)
	want := ""
	if within {
		want = strings.ReplaceAll(around, "*", typ)
	}
	p := parsedProgram(t, linesText(with("A:{t}={t=<>}|main 1")))
	checkPlainType(t, p, parsed(t, strings.ReplaceAll(around, "*", "A.t")), want, code)
}

func TestLinkedTypeLimits(t *testing.T) {
	for depth := 1; depth <= 8; depth++ {
		for around, more := range map[string]int{"*": 0, "(I>*)": 1, "(*>I)": 1, "(*>*)": 1, "(I>(I>*))": 2, "((*>I)>I)": 2, "(I>((I>*)>I))": 3} {
			checkTypePlaces(t, chainText(depth), around, depth+more <= 8)
			checkTypePlaces(t, impl.FormatType(chain(depth, true, num)), around, depth+more <= 8)
		}
	}
	for depth := 1; depth <= 6; depth++ {
		nodes := 1<<depth - 1
		for around, want := range map[string]int{"*": nodes, "(*>*)": 2*nodes + 1, "(I>*)": nodes + 2, "((*>*)>I)": 2*nodes + 3, "(I>(*>*))": 2*nodes + 3, "((*>*)>*)": 3*nodes + 2, "((*>*)>(*>*))": 4*nodes + 3} {
			checkTypePlaces(t, fullText(depth, "I"), around, want <= 63)
		}
	}
	for count := 27; count <= 63; count += 2 {
		checkTypePlaces(t, sizedType(count), "*", true)
		checkTypePlaces(t, sizedType(count), "(*>I)", count+2 <= 63)
		checkTypePlaces(t, sizedType(count), "(I>(*>I))", count+4 <= 63)
		checkTypePlaces(t, sizedType(count), "(*>*)", 2*count+1 <= 63)
		checkTypePlaces(t, sizedType(count), "(I>(*>*))", 2*count+3 <= 63)
	}
}

// sizedType is the text of a type with this number of nodes, which is odd, that is not deep.
func sizedType(count int) string {
	if count == 1 {
		return "I"
	}
	left := count / 2 / 2 * 2
	return "(" + sizedType(left+1) + ">" + sizedType(count-2-left) + ")"
}
