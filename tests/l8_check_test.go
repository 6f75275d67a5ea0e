package tests

import (
	"slices"
	"strings"
	"testing"

	"loop.example/modlink/impl"
)

// The lines of some declarations: a module with an abstract type, one that offers the same, a functor that
// takes such a module, and one with two parameters, of which the second one mentions the first one.
const (
	counterUnit  = "A:{t;z:t;s:(t>t);g:(t>I)}={t=I;z:=0;s:=[t](#0+1);g:=[t]#0}"
	otherCounter = "D:{t;z:t;s:(t>t);g:(t>I)}={t=(I>I);z:=[I]#0;s:=[t][I](#1 (#0+1));g:=[t](#0 0)}"
	twiceFunctor = "F(P:{t;z:t;s:(t>t);g:(t>I)}):{t;z:t;s:(t>t);g:(t>I)}={t=P.t;z:=P.z;s:=[t](P.s (P.s #0));g:=P.g}"
	pairFunctor  = "G(P:{t;z:t})(Q:{f:(P.t>I)}):{u=P.t;y:u;x:I}={u=P.t;y:=P.z;x:=(Q.f P.z)}"
	viewUnit     = "E:{f:(A.t>I)}={f:=[A.t](A.g (A.s #0))}"
)

// programTest is a program whose lines are separated by bars, and the results of CheckProgram.
type programTest struct {
	lines    string
	code, at int
}

// linesText returns the text of a program whose lines are separated by bars.
func linesText(lines string) string {
	known := strings.NewReplacer("$A", counterUnit, "$D", otherCounter, "$F", twiceFunctor, "$G", pairFunctor, "$E", viewUnit, "|", "\n")
	return known.Replace(lines) + "\n"
}

// checkPrograms checks all functions for programs with these results.
func checkPrograms(t *testing.T, list []programTest) {
	t.Helper()
	for _, test := range list {
		text := linesText(test.lines)
		if r := checkProgram(t, text); r.code != test.code || r.at != test.at {
			t.Errorf("checkTexts(%q) = %d, %d, want %d, %d", text, r.code, r.at, test.code, test.at)
		}
	}
}

func TestCheckedPrograms(t *testing.T) {
	checkPrograms(t, []programTest{
		{"main 1", impl.ProgOk, 0},
		{"main [(I>I)](#0 1)", impl.ProgOk, 0},
		{"$A|main A.z", impl.ProgOk, 1},
		{"$A|main (A.g (A.s (A.s A.z)))", impl.ProgOk, 1},
		{"$A|$D|$E|main (E.f A.z)", impl.ProgOk, 3},
		{"$A|$F|main 1", impl.ProgOk, 2},
		{"$F|$A|main 1", impl.ProgOk, 2},
		{"$A|$F|B=F(A)|main (B.g (B.s B.z))", impl.ProgOk, 3},
		{"$F|$A|B=F(A)|C=F(B)|H=F(C)|main (H.s H.z)", impl.ProgOk, 5},
		{"$A|$D|$F|B=F(A)|C=F(A)|H=F(D)|main ((B.g B.z)+((C.g C.z)+(H.g H.z)))", impl.ProgOk, 6},
		// A module that a functor makes is used by units, and by parameters of functors.
		{"$A|$F|B=F(A)|C:{x:B.t;y:I}={x:=(B.s B.z);y:=(B.g x)}|main (B.g C.x)", impl.ProgOk, 4},
		{"$A|$F|B=F(A)|H(P:{f:(B.t>I)}):{x:I}={x:=(P.f B.z)}|C:{f:(B.t>I)}={f:=B.g}|J=H(C)|K=H(B)|main (J.x+1)", impl.ProgArgs, 6},
		{"$A|$F|B=F(A)|H(P:{f:(B.t>I)}):{x:I}={x:=(P.f B.z)}|C:{f:(B.t>I)}={f:=B.g}|J=H(C)|main (J.x+1)", impl.ProgOk, 6},
		// A functor that uses modules, and one that uses no parameter.
		{"$A|H(P:{x:A.t}):{y:A.t;f:(A.t>A.t)}={y:=(A.s P.x);f:=A.s}|C:{x:A.t}={x:=A.z}|B=H(C)|main (B.f (A.s B.y))", impl.ProgOk, 4},
		{"H(P:{}):{t;x:t}={t=I;x:=1}|C:{}={}|B=H(C)|J=H(B)|main J.x", impl.ProgOk, 4},
		// Types that a functor does not hide.
		{"$A|H(P:{t;z:t}):{t=P.t;y:t}={t=P.t;y:=P.z}|B=H(A)|main (A.s B.y)", impl.ProgOk, 3},
		{"$A|H(P:{t;z:t}):{y:P.t}={y:=P.z}|B=H(A)|C=H(A)|main ?<1,(A.s B.y),C.y>", impl.ProgOk, 4},
		{"H(P:{t=I;z:t}):{y:P.t}={y:=(P.z+1)}|C:{t=I;z:t}={t=I;z:=1}|B=H(C)|main (B.y+1)", impl.ProgOk, 3},
		// The same module for several parameters.
		{"$A|$D|H(P:{t;z:t})(Q:{t;z:t})(R:{t;z:t}):{x:P.t;y:Q.t;w:R.t}={x:=P.z;y:=Q.z;w:=R.z}|B=H(A)(A)(D)|main ?<(A.g B.x),B.x,B.y>", impl.ProgOk, 4},
	})
}

// TestFunctorsWithSeveralParams has parameters that mention others, which have to get the arguments in their places.
func TestFunctorsWithSeveralParams(t *testing.T) {
	const to = "|C:{f:(A.t>I)}={f:=A.g}|"
	checkPrograms(t, []programTest{
		{"$A|$G" + to + "B=G(A)(C)|main (B.x+(A.g B.y))", impl.ProgOk, 4},
		{"$A|$G" + to + "B=G(A)(C)|main (A.s B.y)", impl.ProgOk, 4},
		{"$A|$G" + to + "B=G(C)(A)|main 1", impl.ProgArgs, 3},
		{"$A|$G" + to + "B=G(A)(A)|main 1", impl.ProgArgs, 3},
		{"$A|$G" + to + "B=G(C)(C)|main 1", impl.ProgArgs, 3},
		{"$A|$D|$G" + to + "B=G(D)(C)|main 1", impl.ProgArgs, 4},
		{"$A|$D|$G" + to + "J:{f:(D.t>I)}={f:=D.g}|B=G(D)(J)|main (D.s B.u)", impl.ProgMain, 6},
		{"$A|$D|$G" + to + "J:{f:(D.t>I)}={f:=D.g}|B=G(D)(J)|main (D.s B.y)", impl.ProgOk, 6},
		{"$A|$D|$G" + to + "J:{f:(D.t>I)}={f:=D.g}|B=G(A)(J)|main 1", impl.ProgArgs, 5},
		// The type of the first argument is not abstract.
		{"$G|J:{t=I;z:t}={t=I;z:=1}|K:{f:(I>I)}={f:=[I]#0}|B=G(J)(K)|main (B.y+B.x)", impl.ProgOk, 4},
		{"$G|J:{t=I;z:t}={t=I;z:=1}|K:{f:(J.t>I)}={f:=[I]#0}|B=G(J)(K)|main (B.y+B.x)", impl.ProgOk, 4},
		{"$G|J:{t;z:t}={t=I;z:=1}|K:{f:(I>I)}={f:=[I]#0}|B=G(J)(K)|main (B.y+B.x)", impl.ProgArgs, 3},
		// A parameter that must have the type of another one.
		{"$A|$D|H(P:{t})(Q:{t=P.t;z:t}):{x:P.t}={x:=Q.z}|B=H(A)(A)|main B.x", impl.ProgOk, 4},
		{"$A|$D|H(P:{t})(Q:{t=P.t;z:t}):{x:P.t}={x:=Q.z}|B=H(D)(A)|main B.x", impl.ProgArgs, 3},
		{"$A|H(P:{t})(Q:{t=P.t;z:t}):{x:P.t}={x:=Q.z}|C:{t=A.t;z:t}={t=A.t;z:=A.z}|B=H(A)(C)|J=H(C)(A)|K=H(C)(C)|main ?<1,B.x,?<1,J.x,K.x>>", impl.ProgOk, 6},
		{"$A|H(P:{t})(Q:{t=P.t;z:t}):{x:P.t}={x:=Q.z}|C:{t;z:t}={t=A.t;z:=A.z}|B=H(A)(C)|main 1", impl.ProgArgs, 3},
		// The third parameter mentions both others.
		{"$A|$D|H(P:{t})(Q:{t})(R:{f:(P.t>Q.t)}):{f:(P.t>Q.t)}={f:=R.f}|C:{f:(A.t>D.t)}={f:=[A.t]D.z}|B=H(A)(D)(C)|main (D.g (B.f A.z))", impl.ProgOk, 5},
		{"$A|$D|H(P:{t})(Q:{t})(R:{f:(P.t>Q.t)}):{f:(P.t>Q.t)}={f:=R.f}|C:{f:(A.t>D.t)}={f:=[A.t]D.z}|B=H(D)(A)(C)|main 1", impl.ProgArgs, 4},
		{"$A|$D|H(P:{t})(Q:{t})(R:{f:(P.t>Q.t)}):{f:(P.t>Q.t)}={f:=R.f}|C:{f:(A.t>A.t)}={f:=A.s}|B=H(A)(D)(C)|main 1", impl.ProgArgs, 4},
		{"$A|$D|H(P:{t})(Q:{t})(R:{f:(P.t>Q.t)}):{f:(P.t>Q.t)}={f:=R.f}|C:{f:(A.t>A.t)}={f:=A.s}|B=H(A)(A)(C)|main (B.f A.z)", impl.ProgOk, 5},
	})
}

// TestModulesWithNamesOfParams has modules whose names are also those of parameters.
func TestModulesWithNamesOfParams(t *testing.T) {
	p := strings.Replace(counterUnit, "A:", "P:", 1)
	q := strings.Replace(otherCounter, "D:", "Q:", 1)
	checkPrograms(t, []programTest{
		// The functor comes behind the module, or before it.
		{p + "|$F|main 1", impl.ProgUnit, 1},
		{"$A|" + p + "|$F|B=F(A)|main 1", impl.ProgUnit, 2},
		{"$F|" + p + "|main 1", impl.ProgOk, 2},
		{"$F|" + p + "|B=F(P)|main (B.g B.z)", impl.ProgOk, 3},
		{"$F|" + p + "|$A|B=F(A)|main (B.g B.z)", impl.ProgOk, 4},
		{"$F|" + p + "|$A|B=F(A)|main (B.g P.z)", impl.ProgMain, 4},
		// A made module that has the name of a parameter of the functor that makes it.
		{"$F|$A|P=F(A)|main (P.g P.z)", impl.ProgOk, 3},
		{"$F|$A|P=F(A)|B=F(P)|main (B.g B.z)", impl.ProgOk, 4},
		{"$F|$A|P=F(P)|main 1", impl.ProgArgs, 2},
		{"H(P:{t;z:t}):{x:P.t}={x:=P.z}|$A|P=H(A)|main (A.s P.x)", impl.ProgOk, 3},
		{"H(P:{t;z:t}):{x:P.t}={x:=P.z}|$A|" + p + "|B=H(A)|main (A.s B.x)", impl.ProgOk, 4},
		{"H(P:{t;z:t}):{x:P.t}={x:=P.z}|$A|" + p + "|B=H(A)|main (P.s B.x)", impl.ProgMain, 4},
		{"H(P:{t;z:t}):{x:P.t}={x:=P.z}|$A|" + p + "|B=H(P)|main (P.s B.x)", impl.ProgOk, 4},
		// Names of parameters that change places.
		{"$G|" + q + "|P:{f:(Q.t>I)}={f:=Q.g}|B=G(Q)(P)|main (Q.s B.y)", impl.ProgOk, 4},
		{"$G|" + q + "|P:{f:(Q.t>I)}={f:=Q.g}|B=G(P)(Q)|main 1", impl.ProgArgs, 3},
		{"$G|" + p + "|Q:{f:(P.t>I)}={f:=P.g}|B=G(P)(Q)|main (P.s B.y)", impl.ProgOk, 4},
		{"$G|" + p + "|" + q + "|J:{f:(Q.t>I)}={f:=Q.g}|B=G(Q)(J)|main (Q.s B.y)", impl.ProgOk, 5},
		{"$G|" + p + "|" + q + "|J:{f:(Q.t>I)}={f:=Q.g}|B=G(P)(J)|main 1", impl.ProgArgs, 4},
		{"H(P:{t})(Q:{t})(R:{t}):{f:(P.t>(Q.t>R.t))}={f:=[P.t][Q.t]R.x}|main 1", impl.ProgUnit, 0},
		{"H(P:{t;z:t})(Q:{t;z:t}):{x:P.t;y:Q.t}={x:=P.z;y:=Q.z}|" + p + "|" + q + "|B=H(Q)(P)|main ?<(P.g B.y),(Q.s B.x),B.x>", impl.ProgOk, 4},
		{"H(P:{t;z:t})(Q:{t;z:t}):{x:P.t;y:Q.t}={x:=P.z;y:=Q.z}|" + p + "|" + q + "|B=H(Q)(P)|main (P.s B.x)", impl.ProgMain, 4},
		{"H(P:{t;z:t})(Q:{t;z:t}):{x:P.t;y:Q.t}={x:=P.z;y:=Q.z}|" + p + "|" + q + "|B=H(Q)(Q)|main ?<1,(Q.s B.x),B.y>", impl.ProgOk, 4},
		// A functor that has the name of another functor's parameter, and the other way.
		{"F(H:{t}):{}={}|H(F:{t}):{}={}|main 1", impl.ProgOk, 2},
		{"F(H:{t}):{}={}|H(F:{t}):{}={}|$A|B=F(A)|C=H(A)|main 1", impl.ProgOk, 5},
		{"F(H:{t}):{}={}|H(F:{t}):{}={}|$A|B=F(H)|main 1", impl.ProgArgs, 3},
		// A functor is no module, so a parameter may have its name, also of one before it.
		{"F(P:{t}):{}={}|H(F:{t;z:t}):{x:F.t}={x:=F.z}|$A|B=H(A)|main (A.g B.x)", impl.ProgOk, 4},
	})
}

func TestFunctorsThatAreNotThere(t *testing.T) {
	checkPrograms(t, []programTest{
		// Used before it is declared.
		{"$A|B=F(A)|$F|main 1", impl.ProgFunctor, 1},
		{"B=F(A)|$F|$A|main 1", impl.ProgFunctor, 0},
		{"$A|B=F(A)|$F|C=F(A)|main 1", impl.ProgFunctor, 1},
		{"$A|$G|B=F(A)|$F|main 1", impl.ProgFunctor, 2},
		// Not declared at all, or not a functor.
		{"B=F(A)|main 1", impl.ProgFunctor, 0},
		{"$A|B=F(A)|main 1", impl.ProgFunctor, 1},
		{"$A|B=B(A)|main 1", impl.ProgFunctor, 1},
		{"$A|B=A(A)|main 1", impl.ProgFunctor, 1},
		{"$A|$D|B=D(A)|main 1", impl.ProgFunctor, 2},
		{"$A|$F|B=F(A)|C=B(A)|main 1", impl.ProgFunctor, 3},
		{"$A|$F|B=P(A)|main 1", impl.ProgFunctor, 2},
		// Neither the arguments nor the expression matter then.
		{"$A|B=F(C)|main 1", impl.ProgFunctor, 1},
		{"$A|B=F(A)(A)(A)|main 1", impl.ProgFunctor, 1},
		{"$A|B=A(C)(F)|main (1 1)", impl.ProgFunctor, 1},
	})
}

func TestArgsThatDoNotFit(t *testing.T) {
	checkPrograms(t, []programTest{
		// Not there, not yet there, or not a module.
		{"$F|B=F(A)|main 1", impl.ProgArgs, 1},
		{"$F|B=F(A)|$A|main 1", impl.ProgArgs, 1},
		{"$F|B=F(B)|main 1", impl.ProgArgs, 1},
		{"$F|B=F(F)|main 1", impl.ProgArgs, 1},
		{"$F|B=F(P)|main 1", impl.ProgArgs, 1},
		{"$A|$F|$G|B=F(G)|main 1", impl.ProgArgs, 3},
		{"$A|$G|B=G(A)(C)|main 1", impl.ProgArgs, 2},
		{"$A|$G|B=G(C)(A)|main 1", impl.ProgArgs, 2},
		// Too many, or too few.
		{"$A|$F|B=F(A)(A)|main 1", impl.ProgArgs, 2},
		{"$A|$F|B=F(A)(A)(A)|main 1", impl.ProgArgs, 2},
		{"$A|$G|C:{f:(A.t>I)}={f:=A.g}|B=G(A)|main 1", impl.ProgArgs, 3},
		{"$A|$G|C:{f:(A.t>I)}={f:=A.g}|B=G(A)(C)(C)|main 1", impl.ProgArgs, 3},
		{"$A|H(P:{})(Q:{})(R:{}):{}={}|B=H(A)(A)|main 1", impl.ProgArgs, 2},
		{"$A|H(P:{})(Q:{})(R:{}):{}={}|B=H(A)(A)(A)|main 1", impl.ProgOk, 3},
		// Modules that do not offer what is asked for.
		{"$F|C:{}={}|B=F(C)|main 1", impl.ProgArgs, 2},
		{"$F|C:{t;z:t;s:(t>t)}={t=I;z:=0;s:=[t]#0}|B=F(C)|main 1", impl.ProgArgs, 2},
		{"$F|C:{t;z:t;s:(t>t);g:(t>t)}={t=I;z:=0;s:=[t]#0;g:=s}|B=F(C)|main 1", impl.ProgArgs, 2},
		{"$F|C:{t=I;z:t;s:(t>t);g:(t>t)}={t=I;z:=0;s:=[t]#0;g:=s}|B=F(C)|main (B.s 1)", impl.ProgMain, 3},
		{"$F|C:{t=I;z:t;s:(t>t);g:(t>t)}={t=I;z:=0;s:=[t]#0;g:=s}|B=F(C)|main (B.s B.z)", impl.ProgOk, 3},
		{"$F|C:{z:I;s:(I>I);g:(I>I)}={z:=0;s:=[I]#0;g:=s}|B=F(C)|main 1", impl.ProgArgs, 2},
		{"$F|C:{t:I;z:I;s:(I>I);g:(I>I)}={t:=1;z:=0;s:=[I]#0;g:=s}|B=F(C)|main 1", impl.ProgArgs, 2},
		{"$A|H(P:{t=I}):{}={}|B=H(A)|main 1", impl.ProgArgs, 2},
		{"$A|H(P:{t=I}):{}={}|C:{t=I}={t=I}|B=H(C)|main 1", impl.ProgOk, 4},
		{"$A|H(P:{x:A.t}):{}={}|C:{x:I}={x:=1}|B=H(C)|main 1", impl.ProgArgs, 3},
		{"$A|H(P:{t=A.t}):{}={}|B=H(A)|main 1", impl.ProgOk, 3},
		{"$A|$D|H(P:{t=A.t}):{}={}|B=H(D)|main 1", impl.ProgArgs, 3},
		{"$A|H(P:{t=A.t}):{}={}|C:{t=A.t;u=I}={t=A.t;u=I}|B=H(C)|main 1", impl.ProgOk, 4},
		// More than what is asked for, in another order.
		{"$F|C:{x:I;u;t;g:(t>I);s:(t>t);z:t;y:I}={x:=1;u=I;t=u;g:=[t]#0;s:=g;z:=x;y:=z}|B=F(C)|main (B.g B.z)", impl.ProgOk, 3},
		{"$F|C:{x:I;u;t;g:(t>I);s:(t>t);z:t;y:I}={x:=1;u=I;t=u;g:=[t]#0;s:=g;z:=x;y:=z}|B=F(C)|main B.x", impl.ProgMain, 3},
		// The types of the modules count, not those of their bodies.
		{"$F|C:{t;z:t;s:(t>t);g:(t>I)}={t=I;z:=0;s:=[t]#0;g:=s}|H(P:{t;z:t;s:(t>I)}):{}={}|B=H(C)|main 1", impl.ProgArgs, 3},
		{"C:{t;x:t}={t=I;x:=1;h:=2}|H(P:{h:I}):{}={}|B=H(C)|main 1", impl.ProgArgs, 2},
	})
}

func TestUnitsOfProgramsThatDoNotCheck(t *testing.T) {
	checkPrograms(t, []programTest{
		{"C:{x:I}={x:=(1 1)}|main 1", impl.ProgUnit, 0},
		{"$A|C:{x:I}={x:=A.z}|main 1", impl.ProgUnit, 1},
		{"$A|C:{x:A.u}={x:=A.z}|main 1", impl.ProgUnit, 1},
		{"$A|C:" + tooLarge + "={}|main 1", impl.ProgUnit, 1},
		{"C:{x:C.t}={x:=1}|main 1", impl.ProgUnit, 0},
		{"C:{t;x:t}={t=I;x:=1;y:=C.x}|main 1", impl.ProgUnit, 0},
		// What is used must be before it, in a functor too, even if that is not used.
		{"$E|$A|main 1", impl.ProgUnit, 0},
		{"H(P:{}):{x:A.t}={x:=A.z}|$A|main 1", impl.ProgUnit, 0},
		{"H(P:{}):{x:A.t}={x:=A.z}|$A|B=H(A)|main 1", impl.ProgUnit, 0},
		{"H(P:{f:(A.t>I)}):{}={}|$A|main 1", impl.ProgUnit, 0},
		{"$A|H(P:{f:(A.t>I)}):{}={}|main 1", impl.ProgOk, 2},
		{"$A|H(P:{t;z:t}):{x:I}={x:=P.z}|main 1", impl.ProgUnit, 1},
		{"$A|H(P:{t;z:t}):{x:I}={x:=(P.g P.z)}|B=H(A)|main 1", impl.ProgUnit, 1},
		{"$A|H(P:{t})(Q:{x:P.u}):{}={}|main 1", impl.ProgUnit, 1},
		{"$A|H(A:{t}):{}={}|main 1", impl.ProgUnit, 1},
		{"$A|H(P:{t})(A:{t}):{}={}|main 1", impl.ProgUnit, 1},
		// Functors, their parameters and what they hide cannot be used.
		{"$A|$F|C:{}={x:=F.z}|main 1", impl.ProgUnit, 2},
		{"$A|$F|C:{x:F.t}={x:=1}|main 1", impl.ProgUnit, 2},
		{"$A|$F|C:{}={x:=P.z}|main 1", impl.ProgUnit, 2},
		{"$A|$F|B=F(A)|C:{}={x:=P.z}|main 1", impl.ProgUnit, 3},
		{"$A|$F|B=F(A)|C:{}={x:=(B.s A.z)}|main 1", impl.ProgUnit, 3},
		{"$A|$F|B=F(A)|C:{x:A.t}={x:=B.z}|main 1", impl.ProgUnit, 3},
		{"C:{}={x:=1}|D:{}={y:=C.x}|main 1", impl.ProgUnit, 1},
		// Nine definitions are a valid body, but not one that checks.
		{"C:{}={a:=1;b:=1;c:=1;d:=1;e:=1;f:=1;g:=1;h:=1}|main 1", impl.ProgOk, 1},
		{"C:{}={a:=1;b:=1;c:=1;d:=1;e:=1;f:=1;g:=1;h:=1;i:=1}|main 1", impl.ProgUnit, 0},
	})
}

func TestMainsThatDoNotCheck(t *testing.T) {
	checkPrograms(t, []programTest{
		{"main (1 1)", impl.ProgMain, 0},
		{"main #0", impl.ProgMain, 0},
		{"main [I]#1", impl.ProgMain, 0},
		{"main x", impl.ProgMain, 0},
		{"main [t]1", impl.ProgMain, 0},
		{"main A.z", impl.ProgMain, 0},
		{"main [A.t]1", impl.ProgMain, 0},
		{"main ?<1,2,[I]3>", impl.ProgMain, 0},
		{"$A|main (A.z+1)", impl.ProgMain, 1},
		{"$A|main A.u", impl.ProgMain, 1},
		{"$A|main z", impl.ProgMain, 1},
		{"$A|main [t]1", impl.ProgMain, 1},
		{"$A|main [A.z]1", impl.ProgMain, 1},
		{"$A|$F|main F.z", impl.ProgMain, 2},
		{"$A|$F|main [F.t]1", impl.ProgMain, 2},
		{"$A|$F|main P.z", impl.ProgMain, 2},
		{"$A|$D|main (A.s D.z)", impl.ProgMain, 2},
		{"C:{}={x:=1}|main C.x", impl.ProgMain, 1},
		// Each module that a functor makes has types of its own.
		{"$A|$F|B=F(A)|main (B.s A.z)", impl.ProgMain, 3},
		{"$A|$F|B=F(A)|C=F(A)|main (B.s C.z)", impl.ProgMain, 4},
		{"$A|$F|B=F(A)|C=F(A)|main ?<1,B.z,C.z>", impl.ProgMain, 4},
		{"$A|$F|B=F(A)|C=F(A)|main ?<1,B.z,B.z>", impl.ProgOk, 4},
		{"C:{t=I;z:t;s:(t>t);g:(t>I)}={t=I;z:=0;s:=[t]#0;g:=s}|$F|B=F(C)|main (B.z+1)", impl.ProgMain, 3},
		// Types that become too large.
		{"main [" + chainText(7) + "]1", impl.ProgOk, 0},
		{"main [" + chainText(8) + "]1", impl.ProgMain, 0},
		{"C:{t=" + fullText(6, "I") + "}={t=" + fullText(6, "I") + "}|main [C.t]1", impl.ProgMain, 1},
		{"C:{t=" + fullText(5, "I") + "}={t=" + fullText(5, "I") + "}|main [C.t]1", impl.ProgOk, 1},
	})
}

// TestWhichCodeOfAProgramComesFirst has each kind of failure at each place before, behind and beside each other one.
func TestWhichCodeOfAProgramComesFirst(t *testing.T) {
	failures := map[string]int{"Z:{x:I}={}": impl.ProgUnit, "Z:{x:Z.t}={x:=1}": impl.ProgUnit, "Z(A:{}):{}={}": impl.ProgUnit, "Z(P:{x:Z.t}):{}={}": impl.ProgUnit, "Z=H(A)": impl.ProgFunctor, "Z=A(H)": impl.ProgFunctor, "Z=F(H)": impl.ProgArgs, "Z=F(A)(A)": impl.ProgArgs, "Z=F(C)": impl.ProgArgs}
	good := []string{counterUnit, twiceFunctor, "B=F(A)", "C:{}={}"}
	seen := map[int]int{}
	for first, code := range failures {
		for second := range failures {
			for i := range len(good) + 1 {
				for j := i; j <= len(good); j++ {
					for _, main := range []string{"main 1", "main A.x", "main F.z"} {
						lines := slices.Concat(good[:i], []string{first}, good[i:j], []string{"Y" + second[1:]}, good[j:], []string{main})
						r := checkProgram(t, programText(lines...))
						want := code
						if code == impl.ProgArgs && i < 2 {
							want = impl.ProgFunctor
						}
						if first == "Z(A:{}):{}={}" && i == 0 {
							continue // it does not fail there
						}
						if r.code != want || r.at != i {
							t.Errorf("%q: %d, %d, want %d, %d", lines, r.code, r.at, want, i)
						}
						seen[want]++
					}
				}
			}
		}
	}
	checkCodes(t, seen, impl.ProgUnit, impl.ProgFunctor, impl.ProgArgs)
	// The expression comes last, and the number of declarations with it.
	for i := range len(good) + 1 {
		for main, code := range map[string]int{"main 1": impl.ProgOk, "main Z.x": impl.ProgMain} {
			r := checkProgram(t, programText(append(slices.Clone(good[:i]), main)...))
			if r.code != code || r.at != i {
				t.Errorf("%q, %s: %d, %d", good[:i], main, r.code, r.at)
			}
		}
	}
}

// TestEightModules has programs with as many modules and parameters as a scope may have, or one more.
func TestEightModules(t *testing.T) {
	letters := strings.Split("ABCDEHJK", "")
	for count := 0; count <= 8; count++ {
		var lines []string
		for _, n := range letters[:count] {
			lines = append(lines, n+":{t;x:t}={t=I;x:=1}")
		}
		checkPrograms(t, []programTest{{strings.Join(append(lines, "main 1"), "|"), impl.ProgOk, count}})
		for params := 1; params <= 3 && count <= 7; params++ {
			functor := "F" + strings.Join(strings.Split("(P:{t;x:t}).(Q:{t;x:t}).(R:{t;x:t})", ".")[:params], "") + ":{t=P.t;x:t}={t=P.t;x:=P.x}"
			code, at := impl.ProgOk, count+1
			if count+params > 8 {
				code, at = impl.ProgUnit, count
			}
			checkPrograms(t, []programTest{{strings.Join(append(slices.Clone(lines), functor, "main 1"), "|"), code, at}})
			if count+params > 8 || count > 6 {
				continue
			}
			// The functor has been declared before there are too many modules.
			for _, arg := range letters[:count] {
				made := append(slices.Clone(lines), functor, "L=F"+strings.Repeat("("+arg+")", params))
				for _, n := range strings.Split("MNOSTUVW", "")[:6-count] {
					made = append(made, n+"=F"+strings.Repeat("(L)", params))
				}
				checkPrograms(t, []programTest{{strings.Join(append(made, "main ?<1,L.x,"+arg+".x>"), "|"), impl.ProgOk, 8}})
			}
		}
	}
}

// TestLargeTypesOfArguments has arguments and parameters whose types are too large only together.
func TestLargeTypesOfArguments(t *testing.T) {
	large := func(n string, depth int) string {
		return n + ":{t=" + fullText(depth, "I") + "}={t=" + fullText(depth, "I") + "}"
	}
	const functor = "F(P:{t})(Q:{u=(P.t>P.t)}):{v=(P.t>P.t);x:I}={v=Q.u;x:=1}"
	for depth := 1; depth <= 6; depth++ {
		code, at := impl.ProgOk, 4
		if depth == 6 {
			code, at = impl.ProgUnit, 2
		}
		checkPrograms(t, []programTest{{functor + "|" + large("A", depth) + "|C:{u=(A.t>A.t)}={u=(A.t>A.t)}|B=F(A)(C)|main B.x", code, at}})
	}
	// The signature of B has a type that is too large only when it is resolved.
	const widening = "H(P:{t}):{v=(P.t>P.t);x:I}={v=(P.t>P.t);x:=1}"
	checkPrograms(t, []programTest{
		{widening + "|" + large("A", 5) + "|B=H(A)|main [B.v]1", impl.ProgMain, 3},
		{widening + "|" + large("A", 4) + "|B=H(A)|main [B.v]1", impl.ProgOk, 3},
		{widening + "|" + large("A", 6) + "|B=H(A)|main [B.v]1", impl.ProgMain, 3},
		{widening + "|" + large("A", 6) + "|B=H(A)|main B.x", impl.ProgOk, 3},
		{widening + "|" + large("A", 6) + "|B=H(A)|C:{t=B.v}={t=B.v}|main B.x", impl.ProgUnit, 3},
		{widening + "|K(R:{v;x:I}):{x:I}={x:=R.x}|" + large("A", 6) + "|B=H(A)|C=K(B)|main C.x", impl.ProgArgs, 4},
		{widening + "|K(R:{v;x:I}):{x:I}={x:=R.x}|" + large("A", 5) + "|B=H(A)|C=K(B)|main C.x", impl.ProgOk, 5},
		{functor + "|" + widening + "|" + large("A", 6) + "|B=H(A)|C=F(A)(B)|main 1", impl.ProgArgs, 4},
		{"K(R:{v=(I>I)}):{}={}|" + widening + "|" + large("A", 1) + "|B=H(A)|C=K(B)|main 1", impl.ProgOk, 5},
	})
}
