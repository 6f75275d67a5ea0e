package tests

import (
	"slices"
	"strings"
	"testing"

	"loop.example/modlink/impl"
)

// againLines are those of a program with declarations of all kinds. B is made of A, C mentions B in its signature,
// and H uses B, C and E in its body only.
const againLines = "$A|$D|$F|B=F(A)|C:{x:B.t}={x:=(B.s B.z)}|E:{y:I}={y:=5}|H:{w:I}={w:=((B.g C.x)+E.y)}|main (H.w+1)"

// againTest is a change of some of againLines: pairs of a text in them, and another one that replaces it. The
// others are the results for it.
type againTest struct {
	changes    []string
	dirty, set string
	code, at   int
}

func checkAgainTests(t *testing.T, lines string, list []againTest) {
	t.Helper()
	old := linesText(lines)
	for _, test := range list {
		now := old
		for i := 0; i < len(test.changes); i += 2 {
			if !strings.Contains(now, test.changes[i]) {
				t.Fatalf("%q is not in %q", test.changes[i], now)
			}
			now = strings.Replace(now, test.changes[i], test.changes[i+1], 1)
		}
		r := checkChange(t, old, now)
		if !r.same || strings.Join(r.dirty, " ") != test.dirty || setText(r.set) != test.set {
			t.Errorf("from %q to %q: %v, dirty are %v, to be checked again are %v; want %s, %s", old, now, r.same, r.dirty, r.set, test.dirty, test.set)
		}
		checkAgainResult(t, parsedProgram(t, old), parsedProgram(t, now), test.code, test.at)
	}
}

func TestBodiesThatChangeAlone(t *testing.T) {
	checkAgainTests(t, againLines, []againTest{
		{nil, "", "", impl.ProgOk, 7},
		{[]string{"z:=0", "z:=1"}, "", "0", impl.ProgOk, 7},
		{[]string{counterUnit, strings.Replace(otherCounter, "D:", "A:", 1)}, "", "0", impl.ProgOk, 7},
		{[]string{"s:=[t](#0+1)", "h:=7;s:=[t](#0+h)"}, "", "0", impl.ProgOk, 7},
		{[]string{"z:=[I]#0", "z:=[I]1"}, "", "1", impl.ProgOk, 7},
		{[]string{"(P.s (P.s #0))", "(P.s #0)"}, "", "2", impl.ProgOk, 7},
		{[]string{"x:=(B.s B.z)", "x:=B.z"}, "", "4", impl.ProgOk, 7},
		{[]string{"y:=5", "y:=6"}, "", "5", impl.ProgOk, 7},
		{[]string{"w:=((B.g C.x)+E.y)", "w:=1"}, "", "6", impl.ProgOk, 7},
		// Several bodies at once, also in another way than the others use it.
		{[]string{"z:=0", "z:=1", "P.z", "(P.s P.z)", "y:=5", "y:=6"}, "", "0 2 5", impl.ProgOk, 7},
		{[]string{"y:=5", "y:=(A.g A.z)", "w:=((B.g C.x)+E.y)", "w:=(D.g D.z)"}, "", "5 6", impl.ProgOk, 7},
		// Bodies that do not check.
		{[]string{"z:=0", "z:=[I]0"}, "", "0", impl.ProgUnit, 0},
		{[]string{"z:=[I]#0", "z:=0"}, "", "1", impl.ProgUnit, 1},
		{[]string{"z:=P.z", "z:=0"}, "", "2", impl.ProgUnit, 2},
		{[]string{"x:=(B.s B.z)", "x:=(B.s A.z)"}, "", "4", impl.ProgUnit, 4},
		{[]string{"y:=5", "y:=H.w"}, "", "5", impl.ProgUnit, 5},
		{[]string{"y:=5", "y:=E.y"}, "", "5", impl.ProgUnit, 5},
		{[]string{"w:=((B.g C.x)+E.y)", "w:=C.x"}, "", "6", impl.ProgUnit, 6},
		{[]string{"z:=P.z", "z:=0", "y:=5", "y:=[I]5"}, "", "2 5", impl.ProgUnit, 2},
		{[]string{"w:=((B.g C.x)+E.y)", ""}, "", "6", impl.ProgUnit, 6},
	})
}

// TestWhatCanBeSeenOfAUnit changes each part of a unit but the body.
func TestWhatCanBeSeenOfAUnit(t *testing.T) {
	checkAgainTests(t, againLines, []againTest{
		// A is the argument of F in B, which C mentions.
		{[]string{"A:{t;", "A:{t=I;"}, "A B C", "0 3 4 6", impl.ProgOk, 7},
		{[]string{"A:{t;z:t", "A:{t;z:I"}, "A B C", "0 3 4 6", impl.ProgArgs, 3},
		{[]string{"A:{t;z:t", "A:{t;z:(I>I)"}, "A B C", "0 3 4 6", impl.ProgUnit, 0},
		{[]string{"A:{t;z:t;s:(t>t);", "A:{t;z:t;"}, "A B C", "0 3 4 6", impl.ProgArgs, 3},
		// The order of items can be seen, though both signatures match each other.
		{[]string{"A:{t;z:t;s:(t>t);", "A:{t;s:(t>t);z:t;"}, "A B C", "0 3 4 6", impl.ProgOk, 7},
		{[]string{"D:{t;z:t;s:(t>t);", "D:{t;s:(t>t);z:t;"}, "D", "1", impl.ProgOk, 7},
		{[]string{"D:{t;", "D:{t=(I>I);"}, "D", "1", impl.ProgOk, 7},
		{[]string{"{x:B.t}", "{}"}, "C", "4 6", impl.ProgUnit, 6},
		{[]string{"E:{y:I}={y:=5}", "E:{y:I;k:I}={y:=5;k:=6}"}, "E", "5 6", impl.ProgOk, 7},
		{[]string{"E:{y:I}={y:=5}", "E:{t;y:t}={t=I;y:=5}"}, "E", "5 6", impl.ProgUnit, 6},
		{[]string{"H:{w:I}", "H:{}"}, "H", "6", impl.ProgMain, 7},
		{[]string{"H:{w:I}={", "H:{w:I;k:I}={k:=1;"}, "H", "6", impl.ProgOk, 7},
		// The signature of a functor, and those and the names of its parameters, though nothing of F depends on these.
		{[]string{"):{t;z:t;", "):{t=P.t;z:t;"}, "F B C", "2 3 4 6", impl.ProgOk, 7},
		{[]string{"):{t;z:t;s:(t>t);g:(t>I)}", "):{t;z:t;s:(t>t)}"}, "F B C", "2 3 4 6", impl.ProgUnit, 6},
		{[]string{"F(P:{t;", "F(P:{t;k;"}, "F B C", "2 3 4 6", impl.ProgArgs, 3},
		{[]string{"F(P:{t;", "F(P:{t=I;"}, "F B C", "2 3 4 6", impl.ProgArgs, 3},
		{[]string{"F(P:{t;z:t;s:(t>t);", "F(P:{t;s:(t>t);z:t;"}, "F B C", "2 3 4 6", impl.ProgOk, 7},
		{[]string{"F(P:", "F(Q:", "P.t", "Q.t", "P.z", "Q.z", "(P.s (P.s #0))", "(Q.s (Q.s #0))", "P.g", "Q.g"}, "F B C", "2 3 4 6", impl.ProgOk, 7},
		{[]string{"F(P:", "F(R:{})(P:"}, "F B C", "2 3 4 6", impl.ProgArgs, 3},
		// What changes is seen, even if the body changes as well.
		{[]string{"E:{y:I}={y:=5}", "E:{y:(I>I)}={y:=[I]#0}", "E.y", "(E.y 1)"}, "E", "5 6", impl.ProgOk, 7},
	})
}

// TestDirtyMadeModules changes what can be seen of a module that a functor makes, or of what it is made of.
func TestDirtyMadeModules(t *testing.T) {
	const two = "$A|$D|$F|$G|C:{f:(A.t>I)}={f:=A.g}|B=F(A)|H=G(A)(C)|K:{x:H.u}={x:=H.y}|main (H.x+(B.g B.z))"
	checkAgainTests(t, againLines, []againTest{
		{[]string{"B=F(A)", "B=F(D)"}, "B C", "3 4 6", impl.ProgOk, 7},
		{[]string{"B=F(A)", "B=F(H)"}, "B C", "3 4 6", impl.ProgArgs, 3},
		{[]string{"B=F(A)", "B=F(B)"}, "B C", "3 4 6", impl.ProgArgs, 3},
		{[]string{"B=F(A)", "B=F(A)(A)"}, "B C", "3 4 6", impl.ProgArgs, 3},
		{[]string{"B=F(A)", "B=A(A)"}, "B C", "3 4 6", impl.ProgFunctor, 3},
		{[]string{"B=F(A)", "B=H(A)"}, "B C", "3 4 6", impl.ProgFunctor, 3},
	})
	checkAgainTests(t, two, []againTest{
		{nil, "", "", impl.ProgOk, 8},
		// One of two functors.
		{[]string{"F(P:{t;", "F(P:{t;q:I;"}, "F B", "2 5", impl.ProgArgs, 5},
		{[]string{"):{t;z:t;", "):{t=P.t;z:t;"}, "F B", "2 5", impl.ProgOk, 8},
		{[]string{"{u=P.t;y:u;x:I}=", "{u;y:u;x:I}="}, "G H K", "3 6 7", impl.ProgOk, 8},
		{[]string{"{u=P.t;y:u;x:I}=", "{u=P.t;y:u}="}, "G H K", "3 6 7", impl.ProgMain, 8},
		// One of two arguments, which C mentions itself, or another module in its place.
		{[]string{"{f:(A.t>I)}", "{f:(A.t>I);k:I}", "f:=A.g", "f:=A.g;k:=1"}, "C H K", "4 6 7", impl.ProgOk, 8},
		{[]string{"{f:(A.t>I)}", "{}"}, "C H K", "4 6 7", impl.ProgArgs, 6},
		{[]string{"A:{t;z:t;s:(t>t);", "A:{t;s:(t>t);z:t;"}, "A C B H K", "0 4 5 6 7", impl.ProgOk, 8},
		{[]string{"H=G(A)(C)", "H=G(D)(C)"}, "H K", "6 7", impl.ProgArgs, 6},
		{[]string{"H=G(A)(C)", "H=G(C)(A)"}, "H K", "6 7", impl.ProgArgs, 6},
		{[]string{"H=G(A)(C)", "H=G(B)(C)"}, "H K", "6 7", impl.ProgArgs, 6},
		{[]string{"B=F(A)", "B=F(D)"}, "B", "5", impl.ProgOk, 8},
		// Bodies of a functor and of the arguments.
		{[]string{"(P.s (P.s #0))", "(P.s #0)"}, "", "2", impl.ProgOk, 8},
		{[]string{"f:=A.g", "f:=[A.t]0"}, "", "4", impl.ProgOk, 8},
		{[]string{"x:=(Q.f P.z)", "x:=3"}, "", "3", impl.ProgOk, 8},
		{[]string{"x:=(Q.f P.z)", "x:=P.z"}, "", "3", impl.ProgUnit, 3},
	})
}

// TestChainsOfDirtyDeclarations has declarations that mention each other in their signatures, one by one, with some
// beside them that are used in bodies only.
func TestChainsOfDirtyDeclarations(t *testing.T) {
	const chain = "A:{t}={t=I}|B:{u=(A.t>A.t)}={u=(A.t>A.t)}|C:{}={x:=[B.u]1}|D:{v=(B.u>I)}={v=(B.u>I)}|F(P:{v=D.v}):{x:I}={x:=1}|G(P:{v}):{x:I}={y:=[D.v]1;x:=1}|J=F(D)|K=G(D)|main (J.x+K.x)"
	checkAgainTests(t, chain, []againTest{
		{[]string{"A:{t}", "A:{t=I}"}, "A B D F J K", "0 1 2 3 4 5 6 7", impl.ProgOk, 8},
		{[]string{"A:{t}={t=I}", "A:{t}={t=(I>I)}"}, "", "0", impl.ProgOk, 8},
		{[]string{"A:{t}={t=I}", "A:{t=" + fullText(5, "I") + "}={t=" + fullText(5, "I") + "}"}, "A B D F J K", "0 1 2 3 4 5 6 7", impl.ProgUnit, 2},
		{[]string{"B:{u=(A.t>A.t)}", "B:{u}"}, "B D F J K", "1 2 3 4 5 6 7", impl.ProgOk, 8},
		{[]string{"D:{v=(B.u>I)}", "D:{v}"}, "D F J K", "3 4 5 6 7", impl.ProgOk, 8},
		{[]string{"D:{v=(B.u>I)}", "D:{}"}, "D F J K", "3 4 5 6 7", impl.ProgUnit, 4},
		{[]string{"C:{}", "C:{x:(B.u>I)}"}, "C", "2", impl.ProgOk, 8},
		// The body of G uses what is dirty, but what can be seen of it does not.
		{[]string{"):{x:I}={y:=", "):{x:I;z:I}={z:=2;y:="}, "G K", "5 7", impl.ProgOk, 8},
		{[]string{"(P:{v=D.v}):{x:I}", "(P:{v=D.v}):{x:I;y:I}"}, "F J", "4 6", impl.ProgUnit, 4},
		{[]string{"(P:{v=D.v}):{x:I}={", "(P:{v=D.v}):{x:I;y:I}={y:=2;"}, "F J", "4 6", impl.ProgOk, 8},
		{[]string{"(P:{v=D.v})", "(P:{v=(B.u>I)})"}, "F J", "4 6", impl.ProgOk, 8},
	})
	checkAgainTests(t, "A:{x:I}={x:=1}|B:{x:I}={x:=A.x}|C:{x:I}={x:=B.x}|D:{x:I}={x:=C.x}|main D.x", []againTest{
		// Without a signature that mentions another one, nothing but the users of the changed one.
		{[]string{"A:{x:I}={", "A:{x:I;y:I}={y:=1;"}, "A", "0 1", impl.ProgOk, 4},
		{[]string{"B:{x:I}={", "B:{x:I;y:I}={y:=1;"}, "B", "1 2", impl.ProgOk, 4},
		{[]string{"A:{x:I}={x:=1}", "A:{x:(I>I)}={x:=[I]#0}"}, "A", "0 1", impl.ProgUnit, 1},
		{[]string{"A:{x:I}={", "A:{x:I;y:I}={y:=1;", "D:{x:I}", "D:{}"}, "A D", "0 1 3", impl.ProgMain, 4},
	})
	// Types that are made by functors from the types before them.
	const made = "W(P:{t}):{t;x:I}={t=P.t;x:=1}|A:{t}={t=I}|B=W(A)|C=W(B)|D=W(C)|E:{y:(D.t>I)}={y:=[D.t]1}|H:{w:I}={x:=E.y;w:=2}|main H.w"
	checkAgainTests(t, made, []againTest{
		{[]string{"A:{t}", "A:{t=I}"}, "A B C D E", "1 2 3 4 5 6", impl.ProgOk, 7},
		{[]string{"W(P:{t}):{t;x:I}", "W(P:{t}):{t=P.t;x:I}"}, "W B C D E", "0 2 3 4 5 6", impl.ProgOk, 7},
		{[]string{"C=W(B)", "C=W(A)"}, "C D E", "3 4 5 6", impl.ProgOk, 7},
		{[]string{"D=W(C)", "D=W(A)"}, "D E", "4 5 6", impl.ProgOk, 7},
		{[]string{"{t=P.t;x:=1}", "{t=(P.t>P.t);x:=1}"}, "", "0", impl.ProgOk, 7},
		{[]string{"A:{t}={t=I}", "A:{t}={t=(I>I)}"}, "", "1", impl.ProgOk, 7},
		{[]string{"E:{y:(D.t>I)}={y:=[D.t]1}", "E:{y:(C.t>I)}={y:=[C.t]1}"}, "E", "5 6", impl.ProgOk, 7},
	})
}

// TestNamesBeforeAndBehind has declarations that use names of dirty declarations behind them, and names that do not
// stand for declarations, in programs that need not check.
func TestNamesBeforeAndBehind(t *testing.T) {
	checkAgainTests(t, "A:{x:B.t}={}|B:{t}={t=I}|C:{}={x:=B.t}|main 1", []againTest{
		// Only a declaration before makes dirty, but each one is to be checked again that uses a dirty one.
		{[]string{"B:{t}", "B:{t=I}"}, "B", "0 1 2", impl.ProgUnit, 0},
		{[]string{"C:{}", "C:{y:B.t}"}, "C", "2", impl.ProgUnit, 0},
		{[]string{"A:{x:B.t}", "A:{x:C.t}"}, "A", "0", impl.ProgUnit, 0},
		{[]string{"A:{x:B.t}", "A:{x:C.t}", "C:{}", "C:{t}"}, "A C", "0 2", impl.ProgUnit, 0},
	})
	checkAgainTests(t, "B=F(A)|C=B(B)|$F|$A|D=F(A)|main 1", []againTest{
		{[]string{"A:{t;", "A:{t=I;"}, "A D", "0 3 4", impl.ProgFunctor, 0},
		{[]string{"F(P:{t;", "F(P:{t;k;"}, "F D", "0 2 4", impl.ProgFunctor, 0},
		{[]string{"B=F(A)", "B=F(D)"}, "B C", "0 1", impl.ProgFunctor, 0},
		{[]string{"C=B(B)", "C=C(C)"}, "C", "1", impl.ProgFunctor, 0},
		{[]string{"D=F(A)", "D=F(B)"}, "D", "4", impl.ProgFunctor, 0},
	})
	// A declaration that mentions itself.
	checkAgainTests(t, "A:{x:A.t}={y:=A.x}|B=B(B)|main 1", []againTest{
		{nil, "", "", impl.ProgUnit, 0},
		{[]string{"y:=A.x", "y:=A.y"}, "", "0", impl.ProgUnit, 0},
		{[]string{"A:{x:A.t}", "A:{x:A.u}"}, "A", "0", impl.ProgUnit, 0},
		{[]string{"B=B(B)", "B=B(A)"}, "B", "1", impl.ProgUnit, 0},
		{[]string{"B=B(B)", "B=B(A)", "A:{x:A.t}", "A:{}"}, "A B", "0 1", impl.ProgUnit, 0},
	})
	// A parameter with the name of a declaration stands for itself.
	checkAgainTests(t, "P(R:{}):{x:I}={x:=1}|F(P:{t;x:t}):{y:P.t}={y:=P.x}|A:{t;x:t}={t=I;x:=1}|B=F(A)|H(Q:{t;x:t}):{}={y:=P.x}|main 1", []againTest{
		{[]string{"P(R:{}):{x:I}", "P(R:{}):{}"}, "P", "0 4", impl.ProgUnit, 4},
		{[]string{"F(P:{t;x:t})", "F(P:{t;x:t;z:t})"}, "F B", "1 3", impl.ProgArgs, 3},
	})
	checkAgainTests(t, "P(R:{}):{x:I}={x:=1}|F(P:{t;x:t}):{y:P.t}={y:=P.x}|A:{t;x:t}={t=I;x:=1}|B=F(A)|main 1", []againTest{
		{[]string{"P(R:{}):{x:I}", "P(R:{}):{}"}, "P", "0", impl.ProgOk, 4},
	})
}

// TestExpressionsThatChange has programs whose declarations stay as they are.
func TestExpressionsThatChange(t *testing.T) {
	checkAgainTests(t, againLines, []againTest{
		{[]string{"main (H.w+1)", "main (H.w+2)"}, "", "", impl.ProgOk, 7},
		{[]string{"main (H.w+1)", "main [B.t](B.g #0)"}, "", "", impl.ProgOk, 7},
		{[]string{"main (H.w+1)", "main (H.w 1)"}, "", "", impl.ProgMain, 7},
		{[]string{"main (H.w+1)", "main (B.g A.z)"}, "", "", impl.ProgMain, 7},
		{[]string{"main (H.w+1)", "main F.z"}, "", "", impl.ProgMain, 7},
		{[]string{"main (H.w+1)", "main #0"}, "", "", impl.ProgMain, 7},
		{[]string{"main (H.w+1)", "main (H.w 1)", "y:=5", "y:=6"}, "", "5", impl.ProgMain, 7},
		{[]string{"main (H.w+1)", "main (H.w 1)", "y:=5", "y:=C.x"}, "", "5", impl.ProgUnit, 5},
		// The same expression, which a signature breaks that nothing else uses, or that nothing else needs.
		{[]string{"H:{w:I}", "H:{w:(I>I)}", "w:=((B.g C.x)+E.y)", "w:=[I]E.y"}, "H", "6", impl.ProgMain, 7},
		{[]string{"H:{w:I}", "H:{t;w:t}", "w:=((B.g C.x)+E.y)", "t=I;w:=E.y"}, "H", "6", impl.ProgMain, 7},
	})
	checkAgainTests(t, "main 1", []againTest{
		{nil, "", "", impl.ProgOk, 0},
		{[]string{"main 1", "main 2"}, "", "", impl.ProgOk, 0},
		{[]string{"main 1", "main (1 2)"}, "", "", impl.ProgMain, 0},
		{[]string{"main 1", "main A.x"}, "", "", impl.ProgMain, 0},
	})
}

// TestOldProgramsThatDoNotCheck has old programs with each code, and new ones with each. A part that does not check
// may stay as it is.
func TestOldProgramsThatDoNotCheck(t *testing.T) {
	good := linesText("$A|$F|B=F(A)|C:{x:B.t}={x:=B.z}|main (B.g C.x)")
	var texts []string
	seen := map[int]int{}
	for _, change := range []string{"", "z:=0>z:=[I]0", "P.z>P.q", "(B.g C.x)>(A.g C.x)", "(B.g C.x)>1", "B=F(A)>B=A(A)", "B=F(A)>B=F(C)", "B=F(A)>B=F(A)(A)", "x:=B.z>x:=A.z", "C:{x:B.t}>C:{x:A.t}", "C:{x:B.t}>C:{}", "A:{t;>A:{t=I;", "A:{t;z:t;>A:{t;", "z:=0>z:=1", "F(P:{t;>F(P:{t=I;"} {
		from, to, _ := strings.Cut(change, ">")
		text := strings.Replace(good, from, to, 1)
		if change != "" && text == good {
			t.Fatalf("%q is not in %q", from, good)
		}
		texts = append(texts, text)
		seen[checkTexts(text).code]++
	}
	for _, code := range []int{impl.ProgOk, impl.ProgUnit, impl.ProgFunctor, impl.ProgArgs, impl.ProgMain} {
		if seen[code] < 1 {
			t.Errorf("no program has the code %d", code)
		}
	}
	for _, old := range texts {
		for _, now := range texts {
			if r := checkChange(t, old, now); !r.same || old == now && len(r.set)+len(r.dirty) > 0 {
				t.Errorf("from %q to %q: %v", old, now, r)
			}
		}
	}
}

// TestOtherNames has programs that do not declare the same names in the same ways.
func TestOtherNames(t *testing.T) {
	const old = "$A|$D|$F|B=F(A)|C:{x:B.t}={x:=B.z}|main (B.g C.x)"
	for _, test := range []struct {
		now      string
		code, at int
	}{
		// A declaration moves, also to where it does not check.
		{"$D|$A|$F|B=F(A)|C:{x:B.t}={x:=B.z}|main (B.g C.x)", impl.ProgOk, 5},
		{"$A|$F|$D|B=F(A)|C:{x:B.t}={x:=B.z}|main (B.g C.x)", impl.ProgOk, 5},
		{"$A|$F|B=F(A)|C:{x:B.t}={x:=B.z}|$D|main (B.g C.x)", impl.ProgOk, 5},
		{"$F|$D|$A|B=F(A)|C:{x:B.t}={x:=B.z}|main (B.g C.x)", impl.ProgOk, 5},
		{"B=F(A)|$A|$D|$F|C:{x:B.t}={x:=B.z}|main (B.g C.x)", impl.ProgFunctor, 0},
		{"$D|$F|B=F(A)|C:{x:B.t}={x:=B.z}|$A|main (B.g C.x)", impl.ProgArgs, 2},
		{"$A|$D|$F|C:{x:B.t}={x:=B.z}|B=F(A)|main (B.g C.x)", impl.ProgUnit, 3},
		// One is added, in front, between others or at the end.
		{"E:{}={}|$A|$D|$F|B=F(A)|C:{x:B.t}={x:=B.z}|main (B.g C.x)", impl.ProgOk, 6},
		{"$A|$D|E=F(A)|$F|B=F(A)|C:{x:B.t}={x:=B.z}|main (B.g C.x)", impl.ProgFunctor, 2},
		{"$A|$D|$F|E=F(D)|B=F(A)|C:{x:B.t}={x:=B.z}|main (B.g C.x)", impl.ProgOk, 6},
		{"$A|$D|$F|B=F(A)|C:{x:B.t}={x:=B.z}|E:{}={}|main (B.g C.x)", impl.ProgOk, 6},
		{"$A|$D|$F|B=F(A)|C:{x:B.t}={x:=B.z}|E:{x:I}={}|main (B.g C.x)", impl.ProgUnit, 5},
		// One is left out.
		{"$A|$F|B=F(A)|C:{x:B.t}={x:=B.z}|main (B.g C.x)", impl.ProgOk, 4},
		{"$A|$D|$F|B=F(A)|main (B.g B.z)", impl.ProgOk, 4},
		{"$A|$D|$F|B=F(A)|main (B.g C.x)", impl.ProgMain, 4},
		{"$D|$F|B=F(A)|C:{x:B.t}={x:=B.z}|main (B.g C.x)", impl.ProgArgs, 2},
		{"main 1", impl.ProgOk, 0},
		{"main A.x", impl.ProgMain, 0},
		// One has another name.
		{"$A|E:{}={}|$F|B=F(A)|C:{x:B.t}={x:=B.z}|main (B.g C.x)", impl.ProgOk, 5},
		{"$A|$D|$F|E=F(A)|C:{x:E.t}={x:=E.z}|main (E.g C.x)", impl.ProgOk, 5},
		{"$A|$D|$F|E=F(A)|C:{x:B.t}={x:=B.z}|main 1", impl.ProgUnit, 4},
		{"$A|$D|$F|B=F(A)|E:{x:B.t}={x:=B.z}|main (B.g C.x)", impl.ProgMain, 5},
		// One changes its kind.
		{"$A|D(P:{}):{}={}|$F|B=F(A)|C:{x:B.t}={x:=B.z}|main (B.g C.x)", impl.ProgOk, 5},
		{"$A|D=F(A)|$F|B=F(A)|C:{x:B.t}={x:=B.z}|main (B.g C.x)", impl.ProgFunctor, 1},
		{"$A|$D|F:{}={}|B=F(A)|C:{x:B.t}={x:=B.z}|main (B.g C.x)", impl.ProgFunctor, 3},
		{"$A|$D|F=F(A)|B=F(A)|C:{x:B.t}={x:=B.z}|main (B.g C.x)", impl.ProgFunctor, 2},
		{"$A|$D|$F|B:{t;z:t;g:(t>I)}={t=I;z:=0;g:=[t]#0}|C:{x:B.t}={x:=B.z}|main (B.g C.x)", impl.ProgOk, 5},
		{"$A|$D|$F|B(P:{}):{}={}|C:{x:B.t}={x:=B.z}|main (B.g C.x)", impl.ProgUnit, 4},
		{"$A|$D|$F|B=F(A)|C=F(A)|main (B.g B.z)", impl.ProgOk, 5},
	} {
		from, to := linesText(old), linesText(test.now)
		r := checkChange(t, from, to)
		if r.same || len(r.dirty) > 0 || !slices.Equal(r.set, indices(strings.Count(test.now, "|"))) {
			t.Errorf("from %q to %q: %v", from, to, r)
		}
		checkAgainResult(t, parsedProgram(t, from), parsedProgram(t, to), test.code, test.at)
		checkChange(t, to, from)
	}
}
