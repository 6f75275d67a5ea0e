package tests

import (
	"strings"
	"testing"

	"loop.example/modlink/impl"
)

// plainTest is two programs whose lines are separated by bars, and the names of modules, of which the types are the
// same in both, or not.
type plainTest struct{ old, now, same, different string }

func checkPlainTests(t *testing.T, list []plainTest) {
	t.Helper()
	for _, test := range list {
		old, now := linesText(test.old), linesText(test.now)
		same, different := checkPlainSames(t, old, now, strings.Fields(test.same+" "+test.different)...)
		if strings.Join(same, " ") != test.same || strings.Join(different, " ") != test.different {
			t.Errorf("PlainSame(%q, %q, ..) is true for %v, and false for %v", old, now, same, different)
		}
		checkAllPlainSame(t, old, now)
	}
}

// TestTypesOfReplacedModules replaces bodies of one program.
func TestTypesOfReplacedModules(t *testing.T) {
	const rest = "|$F|B=F(A)|C:{t=A.t;u;x:(t>u)}={t=A.t;u=(B.t>I);x:=[t][B.t]1}|D:{x:A.t}={h=A.t;x:=A.z}|E:{t;x:t}={h=B.t;t=I;x:=2}|main 1"
	const unary = "A:" + counterFace + "=" + unaryBody + rest
	checkPlainTests(t, []plainTest{
		{"$A" + rest, "$A" + rest, "A B C D E", "F P Z"},
		// The same type by other bodies.
		{"$A" + rest, "A:" + counterFace + "={t=I;z:=5;s:=[t]#0;g:=s}" + rest, "A B C D E", "F"},
		{"$A" + rest, "A:" + counterFace + "={u=I;h:=1;t=u;z:=5;s:=[u](#0+h);g:=[t]#0}" + rest, "A B C D E", "F"},
		{"$A" + rest, "A:" + counterFace + "={g:=[I]#0;s:=g;z:=5;t=I}" + rest, "A B C D E", "F"},
		{unary, "A:" + counterFace + "={t=(I>I);z:=[t]0;s:=[t]#0;g:=[t]7}" + rest, "", "A B C D E F"},
		// Another type, which is seen wherever it is offered, also by another name or inside of another type.
		{"$A" + rest, unary, "D E", "A B C F"},
		{"$A" + rest, "A:" + counterFace + "=" + doubledBody + rest, "D E", "A B C F"},
		{unary, "A:" + counterFace + "=" + doubledBody + rest, "D E", "A B C F"},
		// The body of the functor, on which only B and what uses its type depend.
		{"$A" + rest, strings.Replace("$A"+rest, "$F", strings.Replace(twiceFunctor, "={t=P.t;", "={h=P.t;t=h;", 1), 1), "A B C D E", "F"},
		{"$A" + rest, strings.Replace("$A"+rest, "$F", "F(P:"+counterFace+"):"+counterFace+"="+numberBody, 1), "A B C D E", "F"},
		{"$A" + rest, strings.Replace("$A"+rest, "$F", "F(P:"+counterFace+"):"+counterFace+"="+unaryBody, 1), "A D E", "B C F"},
		{unary, strings.Replace(unary, "$F", "F(P:"+counterFace+"):"+counterFace+"="+unaryBody, 1), "A B C D E", "F"},
		{"$A" + rest, strings.Replace(unary, "$F", "F(P:"+counterFace+"):"+counterFace+"="+numberBody, 1), "B D E", "A F"},
		// One of two types that a module offers.
		{"$A" + rest, strings.Replace("$A"+rest, "u=(B.t>I);x:=[t][B.t]1", "u=(A.t>I);x:=[t][A.t]1", 1), "A B C D E", "F"},
		{"$A" + rest, strings.Replace("$A"+rest, "u=(B.t>I);x:=[t][B.t]1", "u=(I>B.t);x:=[t][I]B.z", 1), "A B D E", "F"},
		{"$A" + rest, strings.Replace("$A"+rest, "u=(B.t>I);x:=[t][B.t]1", "u=I;x:=[t]1", 1), "A B D E", "C F"},
		// A hidden type, or a value only.
		{"$A" + rest, strings.Replace("$A"+rest, "{h=A.t;x:=A.z}", "{h=(I>I);x:=A.z}", 1), "A B C D E", "F"},
		{"$A" + rest, strings.Replace("$A"+rest, "{h=B.t;t=I;x:=2}", "{t=I;x:=3}", 1), "A B C D E", "F"},
		{"$A" + rest, strings.Replace("$A"+rest, "{h=B.t;t=I;x:=2}", "{t=B.t;x:=B.z}", 1), "A B C D E", "F"},
		{"$A" + rest, strings.Replace("$A"+rest, "{h=B.t;t=I;x:=2}", "{t=(B.t>I);x:=B.g}", 1), "A B C D", "E F"},
	})
}

// TestTypesOfOtherPrograms compares programs whose declarations have nothing to do with each other.
func TestTypesOfOtherPrograms(t *testing.T) {
	checkPlainTests(t, []plainTest{
		// Nothing but the names of types and what they have become matters: not what is hidden, nor the order or the
		// values of a signature, nor where a module is.
		{"C:{t;x:t}={t=I;x:=1}|main 1", "C:{y:I;t}={t=I;y:=1}|main C.y", "C", ""},
		{"C:{t}={t=I}|main 1", "C:{t=I}={t=I}|main 1", "C", ""},
		{"C:{t}={t=(I>I)}|main 1", "C:{t=I}={t=I}|main 1", "", "C"},
		{"C:{t=I}={t=I}|main 1", "C:{t=(I>I)}={t=(I>I)}|main 1", "", "C"},
		{"C:{t;u}={t=I;u=(I>I)}|main 1", "C:{u;t}={t=I;u=(I>I)}|main 1", "C", ""},
		{"C:{t;u=(t>t);v=u}={t=I;u=(I>I);v=u}|main 1", "C:{v;t=I;u=v}={v=(I>I);t=I;u=v}|main 1", "C", ""},
		{"C:{t;u}={t=I;u=(I>I)}|main 1", "C:{t;u}={t=(I>I);u=I}|main 1", "", "C"},
		{"C:{t;u}={t=I;u=I}|main 1", "C:{t;v}={t=I;v=I}|main 1", "", "C"},
		{"$A|C:{t=A.t;u=(t>A.t)}={t=A.t;u=(t>t)}|main 1", "C:{t;u}={u=(I>I);t=I}|main 1", "C", "A"},
		{"$A|$D|C:{t=A.t}={t=A.t}|main 1", "$A|$D|C:{t=D.t}={t=D.t}|main 1", "A D", "C"},
		{"$A|X:{t}={t=I}|C:{t=A.t}={t=A.t}|main 1", "$A|X:{t}={t=I}|C:{t=X.t}={t=X.t}|main 1", "A C X", ""},
		{"$A|$D|C:{t}={t=I}|main 1", "C:{t}={t=I}|$D|X:{t}={t=I}|$A|main A.z", "A C D", "X"},
		// A type that only one of both offers, though it may be there; or that is a value in the other one.
		{"C:{t}={t=I}|main 1", "C:{t;u}={t=I;u=I}|main 1", "", "C"},
		{"C:{t}={t=I;u=I}|main 1", "C:{t;u}={t=I;u=I}|main 1", "", "C"},
		{"C:{}={t=I}|main 1", "C:{t}={t=I}|main 1", "", "C"},
		{"C:{t;u}={t=I;u=I}|main 1", "C:{t;u:t}={t=I;u:=1}|main 1", "", "C"},
		{"C:{t;t:t}={t=I;t:=1}|main 1", "C:{t}={t=I;t:=[I]1}|main 1", "C", ""},
		// No types at all.
		{"C:{}={}|main 1", "C:{}={t=I;x:=1}|main 1", "C", ""},
		{"C:{x:I}={x:=1}|main 1", "C:{x:(I>I);y:I}={x:=[I]#0;y:=2}|main 1", "C", ""},
		{"C:{x:I}={x:=1}|main 1", "C:{t=I}={t=I}|main 1", "", "C"},
		// Units and modules that functors make, with the same types.
		{"$A|$F|B=F(A)|main 1", "$A|B:{t;x:t}={t=A.t;x:=A.z}|main 1", "A B", "F"},
		{"$A|$F|B=F(A)|main 1", "$A|B:{t;x:t}={t=(A.t>I);x:=A.g}|main 1", "A", "B F"},
		{"$A|$D|$F|B=F(A)|main 1", "$A|$D|$F|B=F(D)|main 1", "A D", "B F"},
		{"$A|X:{t;z:t}={t=I;z:=7}|H(P:{t;z:t}):{t=P.t;u}={t=P.t;u=(t>t)}|B=H(A)|main 1", "$A|X:{t;z:t}={t=I;z:=7}|H(P:{t;z:t}):{t=P.t;u}={t=P.t;u=(t>t)}|B=H(X)|main 1", "A B X", "H P"},
		{"$A|$D|H(P:{t})(Q:{t}):{u}={u=(P.t>Q.t)}|B=H(A)(D)|C=H(D)(A)|main 1", "$A|$D|H(P:{t})(Q:{t}):{u}={u=(P.t>Q.t)}|C=H(A)(D)|B=H(A)(D)|main 1", "A B D", "C H P"},
		// A name that only one of both programs has, or of a module in one of them and of a functor in the other.
		{"$A|main 1", "$D|main 1", "", "A D"},
		{"$A|main 1", "main 1", "", "A"},
		{"$A|main 1", "$A|$D|$F|main 1", "A", "D F P"},
		{"C:{t}={t=I}|main 1", "C(P:{}):{t}={t=I}|main 1", "", "C P"},
		{"C:{}={}|main 1", "C(P:{}):{}={}|main 1", "", "C P"},
		{"P:{t}={t=I}|main 1", "C(P:{t}):{t}={t=I}|main 1", "", "C P"},
		{"F(P:{}):{}={}|main 1", "F(P:{}):{}={}|main 1", "", "F P"},
		{"C:{}={}|F(P:{}):{}={}|main 1", "C(P:{}):{}={}|F:{}={}|main 1", "", "C F P"},
		{"main 1", "main 1", "", "A B C"},
	})
	for _, lines := range []string{"main 1", "$A|main 1", upgradeLines} {
		for _, name := range noNames {
			if text := linesText(lines); checkPlainSame(t, text, text, name) {
				t.Errorf("PlainSame(%q, itself, %.20q) is true", text, name)
			}
		}
	}
}

// TestTypesOfProgramsThatAreNotLinked has programs of which one does not check, or is too large when it is linked, though
// the module that is compared is not.
func TestTypesOfProgramsThatAreNotLinked(t *testing.T) {
	for _, test := range []struct {
		lines string
		same  bool
	}{
		{"$A|main A.z", true},
		{"$A|main (A.z+1)", false},
		{"$A|main Z.x", false},
		{"$A|main #0", false},
		{"$A|C:{x:I}={}|main 1", false},
		{"C:{}={x:=(1 1)}|$A|main 1", false},
		{"$A|B=F(A)|main 1", false},
		{"$A|$F|B=F(F)|main 1", false},
		{"$A|" + largeLines[0] + "|main 1", false},
		{largeLines[0] + "|$A|main 1", false},
		{"$A|" + largeLines[1] + "|main 1", false},
		{"$A|" + largeLines[2] + "|main 1", false},
		{"$A|" + largeLines[3] + "|main 1", false},
		// Only the expression is too large, which does not matter.
		{"$A|C:{x:I}={x:=" + sizedNum(201) + "}|main (C.x+C.x)", true},
		{"$A|C:{t}={t=" + fullText(6, "I") + "}|main [(C.t>I)]1", true},
		{"$A|C:{t}={t=" + chainText(8) + "}|main [C.t]1", true},
	} {
		text, good := linesText(test.lines), linesText("$A|main 1")
		for _, other := range []string{good, text, linesText(upgradeLines)} {
			if got := checkPlainSame(t, text, other, "A"); got != test.same {
				t.Errorf("PlainSame(%.300q, %.300q, A) = %v", text, other, got)
			}
			if checkPlainSame(t, text, other, "Z") {
				t.Errorf("PlainSame(%.300q, %.300q, Z) is true", text, other)
			}
		}
	}
	// The largest types that there are.
	for depth := 1; depth <= 6; depth++ {
		for other := 1; other <= 6; other++ {
			with := func(depth int) string {
				return linesText("C:{t;u}={t=" + fullText(depth, "I") + ";u=" + chainText(depth) + "}|D:{t=C.t}={t=C.t}|main 1")
			}
			if checkPlainSame(t, with(depth), with(other), "C") != (depth == other) || checkPlainSame(t, with(depth), with(other), "D") != (depth == other) {
				t.Errorf("PlainSame of types of the depths %d and %d is wrong", depth, other)
			}
		}
	}
}

// TestPlainSameIsAnEquivalence has all triples of some programs.
func TestPlainSameIsAnEquivalence(t *testing.T) {
	texts := choicesOf([][]string{
		{"A:{t;z:t}={t=I;z:=0}", "A:{t;z:t}={t=I;z:=1}", "A:{t;z:t}={t=(I>I);z:=[I]0}", "A:{t=I;z:t}={t=I;z:=0}"},
		{"B:{t=A.t;u}={t=A.t;u=(t>t)}", "B:{t=A.t;u}={t=A.t;u=(I>t)}", "B:{u}={u=(A.t>I)}"},
		{"main 1"},
	})
	var programs []impl.Program
	for _, text := range texts {
		programs = append(programs, parsedProgram(t, text))
	}
	same := map[bool]int{}
	for _, name := range []string{"A", "B"} {
		for i, p := range programs {
			if !checkPlainSame(t, texts[i], texts[i], name) {
				t.Errorf("the types of %s are not the same as themselves in %q", name, texts[i])
			}
			for j, q := range programs {
				first := checkPlainSame(t, texts[i], texts[j], name)
				same[first]++
				for k, r := range programs {
					if first && impl.PlainSame(q, r, name) && !impl.PlainSame(p, r, name) {
						t.Errorf("the types of %s in %q, %q and %q are the same in part only", name, texts[i], texts[j], texts[k])
					}
				}
			}
		}
	}
	if same[true] < 50 || same[false] < 50 {
		t.Errorf("%v", same)
	}
}
