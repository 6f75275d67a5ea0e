package tests

import (
	"strings"
	"testing"

	"loop.example/modlink/impl"
)

// linkTest is a program whose lines are separated by bars, and what it is linked to: types like "A.t=I B.t=I",
// values like "A.x:=1;A.y:=2", and the expression.
type linkTest struct{ lines, types, vals, main string }

// checkLinks checks all functions for programs that are linked to these texts.
func checkLinks(t *testing.T, list []linkTest) {
	t.Helper()
	for _, test := range list {
		text := linesText(test.lines)
		if r := checkProgram(t, text); r.code != impl.ProgOk {
			t.Errorf("%q does not check: %d, %d", text, r.code, r.at)
			continue
		}
		p := parsedProgram(t, text)
		if binds, code := impl.LinkTypes(p); code != impl.LinkOk || bindsText(binds) != test.types {
			t.Errorf("LinkTypes(%q) = %s, %d, want %s", text, bindsText(binds), code, test.types)
		}
		if list, code := impl.LinkDefs(p); code != impl.LinkOk || defsText(list) != test.vals {
			t.Errorf("LinkDefs(%q) = %s, %d, want %s", text, defsText(list), code, test.vals)
		}
		checkLinkedMain(t, p, test.main)
	}
}

const (
	counterVals  = "A.z:=0;A.s:=[I](#0+1);A.g:=[I]#0"
	otherVals    = "D.z:=[I]#0;D.s:=[(I>I)][I](#1 (#0+1));D.g:=[(I>I)](#0 0)"
	twiceOfA     = "[I]([I](#0+1) ([I](#0+1) #0))"
	twiceOfB     = "[I](" + twiceOfA + " (" + twiceOfA + " #0))"
	parameterP   = "P:{t;z:t}={t=I;z:=1}"
	parameterQ   = "Q:{t;z:t}={t=(I>I);z:=[I]2}"
	swapFunctor  = "H(P:{t;z:t})(Q:{t;z:t}):{t;x:P.t;y:Q.t;f:(P.t>Q.t)}={t=(P.t>Q.t);x:=P.z;y:=Q.z;f:=[P.t]Q.z}"
	parameterPQs = parameterP + "|" + parameterQ
)

func TestLinkedPrograms(t *testing.T) {
	checkLinks(t, []linkTest{
		{"main 1", "", "", "1"},
		{"main [(I>I)](#0 1)", "", "", "[(I>I)](#0 1)"},
		{"C:{}={}|main 1", "", "", "1"},
		{"$A|main (A.g A.z)", "A.t=I", counterVals, "([I]#0 0)"},
		{"$D|main (D.g (D.s D.z))", "D.t=(I>I)", otherVals, "([(I>I)](#0 0) ([(I>I)][I](#1 (#0+1)) [I]#0))"},
		{"$A|$D|main [A.t][D.t](A.g #1)", "A.t=I D.t=(I>I)", counterVals + ";" + otherVals, "[I][(I>I)]([I]#0 #1)"},
		{"$A|$E|main (E.f A.z)", "A.t=I", counterVals + ";E.f:=[I]([I]#0 ([I](#0+1) #0))", "([I]([I]#0 ([I](#0+1) #0)) 0)"},
		// The expression does not use what is linked, or uses it in each kind of place.
		{"$A|main 7", "A.t=I", counterVals, "7"},
		{"$A|main ?<(A.g A.z),((A.g A.z)+1),([I](A.g A.z) 2)>", "A.t=I", counterVals, "?<([I]#0 0),(([I]#0 0)+1),([I]([I]#0 0) 2)>"},
		{"$A|main [(A.t>(I>A.t))]((#0 A.z) 1)", "A.t=I", counterVals, "[(I>(I>I))]((#0 0) 1)"},
		// Definitions in the order of the body, not of the signature; a type and a value of the same name.
		{"C:{x:I;u;t;y:u}={t=(I>I);y:=[I]#0;u=t;x:=(y 3)}|main C.x", "C.t=(I>I) C.u=(I>I)", "C.y:=[I]#0;C.x:=([I]#0 3)", "([I]#0 3)"},
		{"C:{t;t:t}={t=I;t:=1}|D:{t:C.t;t=C.t}={t=C.t;t:=C.t}|main [D.t]D.t", "C.t=I D.t=I", "C.t:=1;D.t:=1", "[I]1"},
		// Types that use others, in the body and in other modules.
		{"C:{t;u=(t>t);v;x:u;z:t}={t=(I>I);u=(t>t);v=(u>t);x:=[t]#0;z:=[I]4}|D:{w;y:(C.u>w)}={w=(C.v>C.t);y:=[C.u][C.v]C.z}|main D.y", "C.t=(I>I) C.u=((I>I)>(I>I)) C.v=(((I>I)>(I>I))>(I>I)) D.w=((((I>I)>(I>I))>(I>I))>(I>I))", "C.x:=[(I>I)]#0;C.z:=[I]4;D.y:=[((I>I)>(I>I))][(((I>I)>(I>I))>(I>I))][I]4", "[((I>I)>(I>I))][(((I>I)>(I>I))>(I>I))][I]4"},
		// Variables keep their functions, also around values that have variables of their own.
		{"C:{f:(I>(I>I))}={h:=[I](#0+1);f:=[I][I]((h #1)+(h #0))}|main [I]((C.f #0) #0)", "", "C.h:=[I](#0+1);C.f:=[I][I](([I](#0+1) #1)+([I](#0+1) #0))", "[I](([I][I](([I](#0+1) #1)+([I](#0+1) #0)) #0) #0)"},
		// The same names in several modules.
		{"C:{t;x:t}={t=I;y:=1;x:=(y+1)}|D:{t;x:t;y:I}={t=(C.t>C.t);x:=[C.t]#0;y:=5}|E:{t=(C.t>D.t);x:t;y:t}={t=(C.t>D.t);x:=[C.t]D.x;y:=x}|main (E.y C.x)", "C.t=I D.t=(I>I) E.t=(I>(I>I))", "C.y:=1;C.x:=(1+1);D.x:=[I]#0;D.y:=5;E.x:=[I][I]#0;E.y:=[I][I]#0", "([I][I]#0 (1+1))"},
	})
}

// TestLinkedHiddenParts has values and types that signatures do not offer, but that others use.
func TestLinkedHiddenParts(t *testing.T) {
	const twoTypes = "C:{t;x:t}={t=I;x:=1}|D:{u;y:u}={t=(C.t>I);x:=[C.t]2;u=(t>C.t);y:=[t]C.x}|"
	const twoTypesLinked, twoValsLinked = "C.t=I D.t=(I>I) D.u=((I>I)>I)", "C.x:=1;D.x:=[I]2;D.y:=[(I>I)]1"
	checkLinks(t, []linkTest{
		{"C:{}={t=I;x:=[t]#0}|main 1", "C.t=I", "C.x:=[I]#0", "1"},
		{"C:{x:I}={h:=2;x:=(h+h)}|main C.x", "", "C.h:=2;C.x:=(2+2)", "(2+2)"},
		{"C:{x:I}={h:=2;i:=(h+1);j:=[I](#0+i);x:=(j i);k:=(j x)}|main C.x", "", "C.h:=2;C.i:=(2+1);C.j:=[I](#0+(2+1));C.x:=([I](#0+(2+1)) (2+1));C.k:=([I](#0+(2+1)) ([I](#0+(2+1)) (2+1)))", "([I](#0+(2+1)) (2+1))"},
		{"C:{t;x:t}={u=(I>I);t=(u>u);h:=[u]#0;x:=[u](h #0)}|main [C.t]C.x", "C.u=(I>I) C.t=((I>I)>(I>I))", "C.h:=[(I>I)]#0;C.x:=[(I>I)]([(I>I)]#0 #0)", "[((I>I)>(I>I))][(I>I)]([(I>I)]#0 #0)"},
		// A hidden type and a hidden value have the names of what another module offers.
		{twoTypes + "main D.y", twoTypesLinked, twoValsLinked, "[(I>I)]1"},
		{twoTypes + "main [C.t][D.u]C.x", twoTypesLinked, twoValsLinked, "[I][((I>I)>I)]1"},
		// A value is hidden by one module, and offered by another one.
		{"C:{x:I}={h:=1;x:=(h+1)}|D:{h:I}={x:=C.x;h:=(x+2)}|main (C.x+D.h)", "", "C.h:=1;C.x:=(1+1);D.x:=(1+1);D.h:=((1+1)+2)", "((1+1)+((1+1)+2))"},
		// A functor hides something in each module that it makes, and so does its argument.
		{"C:{t;z:t}={h:=3;t=I;z:=h}|F(P:{t;z:t}):{x:I}={t=(P.t>I);f:=[P.t]4;x:=(f P.z)}|B=F(C)|main B.x", "C.t=I B.t=(I>I)", "C.h:=3;C.z:=3;B.f:=[I]4;B.x:=([I]4 3)", "([I]4 3)"},
		// An argument offers more than the parameter asks for.
		{"$A|F(P:{t}):{f:(P.t>I)}={f:=[P.t]9}|B=F(A)|main (B.f A.z)", "A.t=I", counterVals + ";B.f:=[I]9", "([I]9 0)"},
	})
}

func TestLinkedFunctors(t *testing.T) {
	const inB = ";B.z:=0;B.s:=" + twiceOfA + ";B.g:=[I]#0"
	const inC = ";C.z:=0;C.s:=" + twiceOfB + ";C.g:=[I]#0"
	const pair = "|C:{f:(A.t>I)}={f:=[A.t]8}|"
	checkLinks(t, []linkTest{
		// A functor that is not used is not linked.
		{"$F|main 1", "", "", "1"},
		{"F(P:{}):{t;x:t}={t=I;x:=1}|main 1", "", "", "1"},
		{"$A|$F|$G|main A.z", "A.t=I", counterVals, "0"},
		// One that is used several times, of the same module, and of one that it makes.
		{"$A|$F|B=F(A)|main (B.s B.z)", "A.t=I B.t=I", counterVals + inB, "(" + twiceOfA + " 0)"},
		{"$A|$F|B=F(A)|C=F(A)|main ((C.g C.z)+(B.g B.z))", "A.t=I B.t=I C.t=I", counterVals + inB + strings.ReplaceAll(inB, "B.", "C."), "(([I]#0 0)+([I]#0 0))"},
		{"$F|$A|B=F(A)|C=F(B)|main (C.s C.z)", "A.t=I B.t=I C.t=I", counterVals + inB + inC, "(" + twiceOfB + " 0)"},
		{"$A|$D|$F|B=F(A)|J=F(D)|main (J.g J.z)", "A.t=I D.t=(I>I) B.t=I J.t=(I>I)", counterVals + ";" + otherVals + inB + ";J.z:=[I]#0;J.s:=[(I>I)]([(I>I)][I](#1 (#0+1)) ([(I>I)][I](#1 (#0+1)) #0));J.g:=[(I>I)](#0 0)", "([(I>I)](#0 0) [I]#0)"},
		// Each module has types and values of its own.
		{"F(P:{t;z:t}):{t;z:t}={t=(P.t>P.t);z:=[P.t]P.z}|$A|B=F(A)|C=F(B)|main [B.t][C.t]C.z", "A.t=I B.t=(I>I) C.t=((I>I)>(I>I))", counterVals + ";B.z:=[I]0;C.z:=[(I>I)][I]0", "[(I>I)][((I>I)>(I>I))][(I>I)][I]0"},
		// Modules between the ones that a functor makes, which use them.
		{"F(P:{t;z:t}):{t;z:t}={t=(P.t>P.t);z:=[P.t]P.z}|$A|B=F(A)|E:{t=B.t;z:t}={t=B.t;z:=B.z}|C=F(E)|main C.z", "A.t=I B.t=(I>I) E.t=(I>I) C.t=((I>I)>(I>I))", counterVals + ";B.z:=[I]0;E.z:=[I]0;C.z:=[(I>I)][I]0", "[(I>I)][I]0"},
		// A functor that uses a module besides its parameters.
		{"$A|F(P:{f:(A.t>I)}):{u;x:I}={u=A.t;x:=(P.f (A.s A.z))}|$E|B=F(E)|main B.x", "A.t=I B.u=I", counterVals + ";E.f:=[I]([I]#0 ([I](#0+1) #0));B.x:=([I]([I]#0 ([I](#0+1) #0)) ([I](#0+1) 0))", "([I]([I]#0 ([I](#0+1) #0)) ([I](#0+1) 0))"},
		// Several parameters, of which one may mention another one.
		{"$A|$G" + pair + "B=G(A)(C)|main [B.u](B.x+(C.f B.y))", "A.t=I B.u=I", counterVals + ";C.f:=[I]8;B.y:=0;B.x:=([I]8 0)", "[I](([I]8 0)+([I]8 0))"},
		{parameterPQs + "|" + "A(K:{t;z:t})(L:{t;z:t})(M:{t;z:t}):{f:(M.t>(L.t>K.t))}={t=(K.t>(L.t>M.t));f:=[M.t][L.t]K.z}|B=A(P)(Q)(P)|C=A(Q)(Q)(P)|main B.f", "P.t=I Q.t=(I>I) B.t=(I>((I>I)>I)) C.t=((I>I)>((I>I)>I))", "P.z:=1;Q.z:=[I]2;B.f:=[I][(I>I)]1;C.f:=[I][(I>I)][I]2", "[I][(I>I)]1"},
	})
}

// TestLinkedParamsWithNamesOfModules has parameters with the names of modules, which come behind the functor.
func TestLinkedParamsWithNamesOfModules(t *testing.T) {
	const vals = "P.z:=1;Q.z:=[I]2"
	const single = "H(P:{t;z:t}):{t;x:P.t}={t=(I>P.t);x:=P.z}|"
	checkLinks(t, []linkTest{
		{single + parameterPQs + "|B=H(Q)|main B.x", "P.t=I Q.t=(I>I) B.t=(I>(I>I))", vals + ";B.x:=[I]2", "[I]2"},
		{single + parameterPQs + "|B=H(P)|main B.x", "P.t=I Q.t=(I>I) B.t=(I>I)", vals + ";B.x:=1", "1"},
		// The made module has the name of the parameter.
		{single + parameterQ + "|P=H(Q)|main P.x", "Q.t=(I>I) P.t=(I>(I>I))", "Q.z:=[I]2;P.x:=[I]2", "[I]2"},
		{"H(P:{t;z:t}):{t;z:t}={t=(P.t>I);z:=[P.t]7}|" + parameterQ + "|P=H(Q)|B=H(P)|main B.z", "Q.t=(I>I) P.t=((I>I)>I) B.t=(((I>I)>I)>I)", "Q.z:=[I]2;P.z:=[(I>I)]7;B.z:=[((I>I)>I)]7", "[((I>I)>I)]7"},
		// The names change places.
		{swapFunctor + "|" + parameterPQs + "|B=H(P)(Q)|main B.f", "P.t=I Q.t=(I>I) B.t=(I>(I>I))", vals + ";B.x:=1;B.y:=[I]2;B.f:=[I][I]2", "[I][I]2"},
		{swapFunctor + "|" + parameterPQs + "|B=H(Q)(P)|main B.f", "P.t=I Q.t=(I>I) B.t=((I>I)>I)", vals + ";B.x:=[I]2;B.y:=1;B.f:=[(I>I)]1", "[(I>I)]1"},
		{swapFunctor + "|" + parameterPQs + "|B=H(Q)(Q)|main B.f", "P.t=I Q.t=(I>I) B.t=((I>I)>(I>I))", vals + ";B.x:=[I]2;B.y:=[I]2;B.f:=[(I>I)][I]2", "[(I>I)][I]2"},
		{swapFunctor + "|" + parameterPQs + "|B=H(P)(P)|main B.f", "P.t=I Q.t=(I>I) B.t=(I>I)", vals + ";B.x:=1;B.y:=1;B.f:=[I]1", "[I]1"},
		{"H(P:{t})(Q:{t})(R:{t}):{}={t=(P.t>(Q.t>R.t))}|P:{t}={t=I}|Q:{t}={t=(I>I)}|R:{t}={t=(Q.t>P.t)}|B=H(Q)(R)(P)|C=H(R)(P)(Q)|main 1", "P.t=I Q.t=(I>I) R.t=((I>I)>I) B.t=((I>I)>(((I>I)>I)>I)) C.t=(((I>I)>I)>(I>(I>I)))", "", "1"},
		// A parameter with the name of a functor, or of a module that the other functor makes.
		{"H(P:{t;z:t}):{x:P.t}={x:=P.z}|F(H:{x:I}):{y:I}={y:=(H.x+1)}|" + parameterP + "|C:{t=I;z:t}={t=I;z:=6}|B=H(C)|J=F(B)|main J.y", "P.t=I C.t=I", "P.z:=1;C.z:=6;B.x:=6;J.y:=(6+1)", "(6+1)"},
		{"F(B:{t;z:t}):{t;z:t}={t=(B.t>I);z:=[B.t]3}|" + parameterP + "|B=F(P)|C=F(B)|main C.z", "P.t=I B.t=(I>I) C.t=((I>I)>I)", "P.z:=1;B.z:=[I]3;C.z:=[(I>I)]3", "[(I>I)]3"},
	})
}

func TestPlainType(t *testing.T) {
	p := parsedProgram(t, linesText("C:{t;u=(t>I);x:I}={h=(I>I);t=(h>I);u=(t>I);x:=1}|$F|$A|B=F(A)|P:{v}={v=A.t}|main (1+C.x)"))
	for text, want := range map[string]string{
		"I":                     "I",
		"(I>(I>I))":             "(I>(I>I))",
		"A.t":                   "I",
		"B.t":                   "I",
		"C.t":                   "((I>I)>I)",
		"C.u":                   "(((I>I)>I)>I)",
		"(A.t>(C.t>A.t))":       "(I>(((I>I)>I)>I))",
		"P.v":                   "I",
		"(P.v>P.v)":             "(I>I)",
		"C.h":                   "(I>I)", // which is hidden
		"(C.h>C.h)":             "((I>I)>(I>I))",
		"t":                     "t",
		"(t>(u>h))":             "(t>(u>h))",
		"(A.t>t)":               "(I>t)",
		"A.u":                   "A.u",
		"A.z":                   "A.z", // which is a value
		"C.x":                   "C.x",
		"F.t":                   "F.t",
		"P.t":                   "P.t", // which the parameter has, but not the module
		"Z.t":                   "Z.t",
		"((Z.t>C.h)>(A.z>B.t))": "((Z.t>(I>I))>(A.z>I))",
	} {
		checkPlainType(t, p, parsed(t, text), want, impl.LinkOk)
	}
	for _, x := range invalidTypes() {
		checkPlainType(t, p, x, "", impl.LinkInvalid)
		checkPlainType(t, p, fun(name("A", "t"), x), "", impl.LinkInvalid)
	}
	for _, x := range []impl.Type{loop(1, num), loop(1000, name("A", "t")), chain(9, true, num), full(7, name("A", "t")), sharedType(200, num), chain(200000, false, num)} {
		checkPlainType(t, p, x, "", impl.LinkInvalid)
	}
}

// TestRunProgram has implementations of the same signature, which show the same.
func TestRunProgram(t *testing.T) {
	const other = "A:{t;z:t;s:(t>t);g:(t>I)}={t=(I>I);z:=[I]#0;s:=[t][I](#1 (#0+1));g:=[t](#0 0)}"
	for lines, want := range map[string]string{
		"|main (A.g A.z)":                          "0",
		"|main (A.g (A.s (A.s A.z)))":              "2",
		"|$F|B=F(A)|main (B.g (B.s (B.s B.z)))":    "4",
		"|$F|B=F(A)|C=F(B)|main (C.g (C.s C.z))":   "4",
		"|$F|B=F(A)|main ((A.g A.z)+(B.g B.z))":    "0",
		"|main ?<(A.g (A.s A.z)),(50+49),(1+1)>":   "99",
		"|main ?<(A.g A.z),(50+49),(1+1)>":         "2",
		"|main ((A.g (A.s A.z))+(99+(A.g A.z)))":   "0",
		"|main [I](1+#0)":                          "[I](1+#0)",
		"|main ([I][I](#1+#0) (A.g (A.s A.z)))":    "[I](1+#0)",
		"|$E|main (E.f (A.s (A.s (A.s A.z))))":     "4",
		"|C:{f:(I>I)}={f:=[I](#0+5)}|main (C.f 7)": "12",
	} {
		for _, unit := range []string{counterUnit, other} {
			text := linesText(unit + lines)
			v, code := impl.RunProgram(parsedProgram(t, text), 400)
			if code != impl.RunValue || impl.FormatExpr(v) != want {
				t.Errorf("RunProgram(%q) = %s, %d, want %s", text, impl.FormatExpr(v), code, want)
			}
			checkProgram(t, text)
		}
	}
}
