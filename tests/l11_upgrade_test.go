package tests

import (
	"strings"
	"testing"

	"loop.example/modlink/impl"
)

// upgradeLines are those of a program with units before and behind a functor and the module that it makes.
const upgradeLines = "$A|$F|B=F(A)|C:{x:B.t}={x:=(B.s B.z)}|H:{w:I}={w:=(B.g C.x)}|main ((A.g (A.s A.z))+(H.w+10))"

// Bodies that offer what the signature of $A asks for, each with another type.
const (
	numberBody  = "{t=I;z:=0;s:=[t](#0+1);g:=[t]#0}"
	unaryBody   = "{t=(I>I);z:=[I]#0;s:=[t][I](#1 (#0+1));g:=[t](#0 0)}"
	doubledBody = "{h=I;i:=2;t=((h>I)>I);z:=[(h>I)](#0 0);s:=[t][(h>I)](#0 ((#1 [h]#0)+i));g:=[t](#0 [h]#0)}"
)

// runOf returns what a program that checks is evaluated to.
func runOf(t *testing.T, text string) string {
	t.Helper()
	e, code := impl.RunProgram(parsedProgram(t, text), 400)
	if code != impl.RunValue {
		t.Errorf("RunProgram(%q) = %d", text, code)
	}
	return impl.FormatExpr(e)
}

func TestReplacedBodies(t *testing.T) {
	text := linesText(upgradeLines)
	if got := runOf(t, text); got != "13" {
		t.Errorf("%q is evaluated to %s", text, got)
	}
	for _, test := range []struct{ name, body, run string }{
		// The body that is there.
		{"A", numberBody, "13"},
		{"F", "{t=P.t;z:=P.z;s:=[t](P.s (P.s #0));g:=P.g}", "13"},
		{"C", "{x:=(B.s B.z)}", "13"},
		{"H", "{w:=(B.g C.x)}", "13"},
		// Another type, which the others do not see; and more definitions, or others, or in another order.
		{"A", unaryBody, "13"},
		{"A", doubledBody, "16"},
		{"A", "{t=I;z:=5;s:=[t](#0+1);g:=[t]#0}", "23"},
		{"A", "{t=I;z:=0;s:=[t]#0;g:=s}", "10"},
		{"A", "{g:=[I]#0;s:=[I](#0+1);z:=0;t=I}", "13"},
		{"A", "{u=I;t=u;h:=[u][t](#1+#0);g:=[u]#0;z:=(g 0);s:=[t]((h #0) 1)}", "13"},
		// A functor, whose body uses its parameters, a module before it, or neither.
		{"F", "{t=P.t;z:=(P.s P.z);s:=P.s;g:=P.g}", "13"},
		{"F", "{t=A.t;z:=(A.s A.z);s:=A.s;g:=A.g}", "13"},
		{"F", "{t=I;z:=(P.g P.z);s:=[I](#0+(A.g (A.s A.z)));g:=[I]#0}", "12"},
		{"F", unaryBody, "12"},
		{"F", doubledBody, "13"},
		// Units behind a module that a functor makes.
		{"C", "{x:=B.z}", "11"},
		{"C", "{h:=[B.t](B.s (B.s #0));x:=(h (h B.z))}", "19"},
		{"H", "{w:=1}", "12"},
		{"H", "{w:=((A.g A.z)+(B.g (B.s C.x)))}", "15"},
	} {
		now, code := checkReplaceBody(t, text, test.name, test.body)
		if code != impl.UpgradeOk || runOf(t, now) != test.run {
			t.Errorf("%s with the body %s: %q, %d", test.name, test.body, now, code)
		}
	}
}

// TestBodiesThatAreNotAccepted has bodies that are valid.
func TestBodiesThatAreNotAccepted(t *testing.T) {
	text := linesText(upgradeLines)
	for name, bodies := range map[string][]string{
		"A": {
			// Something is missing, has another type, or does not check.
			"{}", "{t=I;z:=0;s:=[t](#0+1)}", "{t=I;s:=[t](#0+1);g:=[t]#0}", "{z:=0;s:=[I](#0+1);g:=[I]#0}", "{u=I;z:=0;s:=[u](#0+1);g:=[u]#0}",
			"{t=(I>I);z:=0;s:=[t]#0;g:=[t]0}", "{t=I;z:=0;s:=[t]#0;g:=[t][t]#0}", "{t=I;z:=[t]0;s:=[t]#0;g:=[t]0}",
			"{t=I;z:=0;s:=[t](#0 1);g:=[t]#0}", "{t=I;z:=0;s:=[t]#0;g:=[t]#0;h:=(1 1)}",
			// What comes behind it, or the unit itself, cannot be used, and neither can what there is not at all.
			"{t=A.t;z:=A.z;s:=A.s;g:=A.g}", "{t=I;z:=0;s:=[t]#0;g:=[t]#0;h:=A.z}", "{t=B.t;z:=B.z;s:=B.s;g:=B.g}", "{t=I;z:=0;s:=[t]#0;g:=[t]#0;h:=H.w}", "{t=I;z:=0;s:=[t]#0;g:=[t]#0;h:=P.z}", "{t=I;z:=0;s:=[t]#0;g:=[t]#0;h:=Z.z}", "{t=I;z:=0;s:=[t]#0;g:=[t]#0;u=F.t}",
			// Too many definitions for a principal signature.
			"{a:=1;b:=1;c:=1;d:=1;e:=1;t=I;z:=0;s:=[t]#0;g:=s}", "{a:=1;b:=1;c:=1;d:=1;e:=1;f:=1;t=I;z:=0;s:=[t]#0;g:=s}",
		},
		"F": {
			"{}", "{t=P.t;z:=0;s:=P.s;g:=P.g}", "{t=P.t;z:=A.z;s:=P.s;g:=P.g}", "{t=P.t;z:=P.z;s:=P.s;g:=A.g}", "{t=P.t;z:=P.z;s:=P.s;g:=P.g;h:=P.h}", "{t=P.t;z:=P.z;s:=P.s;g:=P.g;h:=(P.z+1)}", "{t=P.t;z:=P.z;s:=P.s;g:=P.g;u=P.u}",
			"{t=B.t;z:=B.z;s:=B.s;g:=B.g}", "{t=F.t;z:=F.z;s:=F.s;g:=F.g}", "{t=Q.t;z:=Q.z;s:=Q.s;g:=Q.g}",
		},
		"C": {"{}", "{x:=0}", "{x:=A.z}", "{x:=(B.s A.z)}", "{x:=C.x}", "{x:=B.z;h:=H.w}", "{x:=P.z}", "{x:=F.z}", "{x=B.t}", "{x:=B.s}"},
		"H": {"{}", "{w:=C.x}", "{w:=H.w}", "{w:=[I]1}", "{x:=1}", "{w=I}", "{w:=1;h:=(A.g B.z)}"},
	} {
		for _, body := range bodies {
			if _, code := checkReplaceBody(t, text, name, body); code != impl.UpgradeUnit {
				t.Errorf("%s with the body %s: %d", name, body, code)
			}
		}
	}
	// As many definitions as a principal signature may have are accepted, with this signature, too.
	if _, code := checkReplaceBody(t, text, "A", "{a:=1;b:=1;c:=1;d:=1;t=I;z:=0;s:=[t]#0;g:=s}"); code != impl.UpgradeOk {
		t.Errorf("a body with eight definitions: %d", code)
	}
}

// TestNamesThatAreNoUnits has names that nothing defines, or that a functor's module or a parameter has.
func TestNamesThatAreNoUnits(t *testing.T) {
	text := linesText(upgradeLines)
	for _, body := range []string{numberBody, "{}", "{x:=(1 1)}"} {
		for _, name := range append([]string{"B", "P", "D"}, noNames...) {
			if _, code := checkReplaceBody(t, text, name, body); code != impl.UpgradeName {
				t.Errorf("ReplaceBody of %.20q returns %d", name, code)
			}
		}
		for _, name := range []string{"B", "P", "D"} {
			if _, code := checkUpgrade(t, text, name+":{t;z:t;s:(t>t);g:(t>I)}="+body); code != impl.UpgradeName {
				t.Errorf("UpgradeProgram of %s returns %d", name, code)
			}
		}
	}
	// A module of which the body is the same as that of the functor that makes it.
	if _, code := checkUpgrade(t, text, strings.Replace(counterUnit, "A:", "B:", 1)); code != impl.UpgradeName {
		t.Errorf("UpgradeProgram of a made module returns %d", code)
	}
	if _, code := checkUpgrade(t, text, strings.Replace(twiceFunctor, "F(", "B(", 1)); code != impl.UpgradeName {
		t.Errorf("UpgradeProgram of a made module returns %d", code)
	}
	// A program without declarations has none.
	for _, name := range append([]string{"A", "B"}, noNames...) {
		if _, code := checkReplaceBody(t, "main 1\n", name, "{}"); code != impl.UpgradeName {
			t.Errorf("ReplaceBody of %.20q returns %d", name, code)
		}
	}
}

// upgradeTest is a unit that replaces another one of upgradeLines, and what the program is evaluated to then; or nothing,
// if the unit is not accepted.
type upgradeTest struct{ unit, run string }

func checkUpgrades(t *testing.T, lines string, list []upgradeTest) {
	t.Helper()
	text := linesText(lines)
	for _, test := range list {
		now, code := checkUpgrade(t, text, test.unit)
		want := impl.UpgradeOk
		if test.run == "" {
			want = impl.UpgradeUnit
		}
		if code != want || code == impl.UpgradeOk && runOf(t, now) != test.run {
			t.Errorf("the unit %s: %q, %d", test.unit, now, code)
		}
	}
}

const counterFace = "{t;z:t;s:(t>t);g:(t>I)}"

func TestUpgradedModules(t *testing.T) {
	checkUpgrades(t, upgradeLines, []upgradeTest{
		{counterUnit, "13"},
		{"A:" + counterFace + "=" + unaryBody, "13"},
		{"A:" + counterFace + "=" + doubledBody, "16"},
		// It offers more than before, also by showing a type, or in another order.
		{"A:{t;z:t;s:(t>t);g:(t>I);y:I}={t=I;y:=7;z:=0;s:=[t](#0+y);g:=[t]#0}", "31"},
		{"A:{u;y:I;t;f:(u>t);z:t;s:(t>t);g:(t>I)}={t=I;u=(I>I);y:=2;f:=[u](#0 1);z:=y;s:=[t]#0;g:=s}", "14"},
		{"A:{t=I;z:t;s:(t>t);g:(t>I)}=" + numberBody, "13"},
		{"A:{t=(I>I);z:t;s:(t>t);g:(t>I)}=" + unaryBody, "13"},
		{"A:{g:(I>I);s:(I>I);z:I;t=I}=" + numberBody, "13"},
		{"A:{g:((I>I)>I);t;z:(I>I);s:(t>t)}=" + unaryBody, "13"},
		// It offers less or something else than before, but its Body would do.
		{"A:{}=" + numberBody, "13"},
		{"A:{t;z:t}=" + unaryBody, "13"},
		{"A:{z:I;g:(I>I)}=" + numberBody, "13"},
		// It has parameters, of which the unit that replaces the old one keeps none.
		{"A(P:{}):" + counterFace + "=" + numberBody, "13"},
		{"A(P:{t;x:t})(Q:{x:P.t}):{x:P.t;t}={t=I;z:=3;s:=[t]#0;g:=s;x:=Q.x}", ""},
		{"A(P:{t;x:t})(Q:{x:P.t}):{t}={t=I;z:=3;s:=[t]#0;g:=s}", "16"},
		{"A(P:{t;z:t;s:(t>t);g:(t>I)}):" + counterFace + "={t=P.t;z:=P.z;s:=P.s;g:=P.g}", ""},
		// It is accepted itself, but not with the old signature.
		{"A:{t;z:t}={t=I;z:=3}", ""},
		{"A:{}={}", ""},
		{"A:{z:I;s:(I>I);g:(I>I)}={z:=0;s:=[I](#0+1);g:=s}", ""},
		{"A:{u;z:u;s:(u>u);g:(u>I)}={u=I;z:=0;s:=[u](#0+1);g:=[u]#0}", ""},
		{"A:{t;z:I;s:(t>t);g:(t>I)}={t=(I>I);z:=0;s:=[t]#0;g:=[t]0}", ""},
		{"A:{t;z:t;s:(t>t);g:(t>t)}={t=(I>I);z:=[I]0;s:=[t]#0;g:=s}", ""},
		// It is not accepted itself, though its Body would be.
		{"A:{t;z:t;s:(t>t);g:(t>I);y:I}=" + numberBody, ""},
		{"A:{t=(I>I);z:t;s:(t>t);g:(t>I)}=" + numberBody, ""},
		{"A:{t;z:(I>I);s:(t>t);g:(t>I)}=" + numberBody, ""},
		{"A:{t;z:t;s:(t>t);g:(t>I);u}=" + numberBody, ""},
		{"A:{x:A.t}=" + numberBody, ""},
		{"A:{t=Z.t}=" + numberBody, ""},
		{"A:{x:B.t}=" + numberBody, ""},
		{"A:" + tooLarge + "=" + numberBody, ""},
		{"A(P:" + tooLarge + "):" + counterFace + "=" + numberBody, ""},
		{"A(P:{x:Z.t}):" + counterFace + "=" + numberBody, ""},
		{"A(P:{x:Q.t})(Q:{t}):" + counterFace + "=" + numberBody, ""},
		{"A(P:{t}):{x:P.t}=" + numberBody, ""},
		// Neither of both is accepted.
		{"A:" + counterFace + "={}", ""},
		{"A:" + counterFace + "={t=I;z:=(1 1);s:=[t]#0;g:=s}", ""},
		{"A:{x:I}={x:=A.z}", ""},
		{"A:" + counterFace + "={t=B.t;z:=B.z;s:=B.s;g:=B.g}", ""},
	})
	// Units behind others.
	checkUpgrades(t, upgradeLines, []upgradeTest{
		{"C:{x:B.t}={x:=B.z}", "11"},
		{"C:{x:B.t;y:A.t}={y:=A.z;x:=(B.s (B.s B.z))}", "15"},
		{"C:{t=B.t;x:t}={t=B.t;x:=B.z}", "11"},
		{"C:{y:I}={y:=1;x:=B.z}", "11"},
		{"C:{t;x:t}={t=I;x:=1}", ""},
		{"C:{x:A.t}={x:=A.z}", ""},
		{"C:{x:I}={x:=B.z}", ""},
		{"C:{x:H.t}={x:=B.z}", ""},
		{"C:{x:B.t}={x:=B.z;y:=H.w}", ""},
		{"C(A:{}):{x:B.t}={x:=B.z}", ""},
		{"C(B:{t;z:t}):{x:B.t}={x:=B.z}", ""},
		{"C(H:{}):{x:B.t}={x:=B.z}", "11"},
		{"C(F:{}):{x:B.t}={x:=B.z}", "11"},
		{"H:{w:I;v:B.t}={v:=C.x;w:=5}", "16"},
		{"H:{v:B.t}={v:=C.x}", ""},
		{"H:{w:B.t}={w:=C.x}", ""},
		{"H:{}={w:=5;v:=C.x}", "16"},
		{"H(C:{}):{w:I}={w:=5}", ""},
	})
}

func TestUpgradedFunctors(t *testing.T) {
	const param = "P:{t;z:t;s:(t>t);g:(t>I)}"
	checkUpgrades(t, upgradeLines, []upgradeTest{
		{twiceFunctor, "13"},
		{"F(" + param + "):" + counterFace + "={t=P.t;z:=P.z;s:=P.s;g:=P.g}", "12"},
		{"F(" + param + "):{t=P.t;u;z:t;s:(t>t);g:(t>I)}={t=P.t;z:=P.z;s:=P.s;g:=P.g;u=I}", "12"},
		{"F(" + param + "):{}={t=P.t;z:=P.z;s:=P.s;g:=P.g}", "12"},
		{"F(" + param + "):" + counterFace + "=" + unaryBody, "12"},
		// The parameters are others: fewer, none, more, with other names, or with other signatures.
		{"F:" + counterFace + "=" + numberBody, "12"},
		{"F:" + counterFace + "={t=A.t;z:=A.z;s:=A.s;g:=A.g}", "12"},
		{"F(Q:" + counterFace + "):" + counterFace + "=" + numberBody, "12"},
		{"F(Q:" + counterFace + ")(" + param + "):" + counterFace + "={t=P.t;z:=P.z;s:=P.s;g:=P.g}", "12"},
		{"F(P:{t;z:t}):{t;z:t}={t=P.t;z:=P.z;s:=[t]#0;g:=[t]9}", "20"},
		{"F(P:{t=I;z:t;s:(t>t);g:(t>I)}):" + counterFace + "={t=P.t;z:=P.z;s:=P.s;g:=P.g}", "12"},
		{"F(P:{t;z:t;s:(t>t);g:(t>I);q:A.t}):" + counterFace + "={t=P.t;z:=P.z;s:=P.s;g:=P.g}", "12"},
		// Then, it is accepted itself, but what it uses is not there with the old parameters.
		{"F(Q:" + counterFace + "):" + counterFace + "={t=Q.t;z:=Q.z;s:=Q.s;g:=Q.g}", ""},
		{"F(" + param + ")(Q:{x:P.t}):" + counterFace + "={t=P.t;z:=Q.x;s:=P.s;g:=P.g}", ""},
		{"F(P:{t=I;z:t;s:(t>t);g:(t>I)}):" + counterFace + "={t=P.t;z:=0;s:=P.s;g:=P.g}", ""},
		{"F(P:{t;z:t;s:(t>t);g:(t>I);q:t}):" + counterFace + "={t=P.t;z:=P.q;s:=P.s;g:=P.g}", ""},
		{"F(P:{t=A.t}):" + counterFace + "={t=P.t;z:=A.z;s:=A.s;g:=A.g}", ""},
		{"F(P:{f:(I>I)}):{f:(I>I)}={f:=P.f}", ""},
		{"F(" + param + "):{t;z:t}={t=P.t;z:=P.z}", ""},
		// It is not accepted itself, but its Body is with the old parameters.
		{"F:" + counterFace + "={t=P.t;z:=P.z;s:=P.s;g:=P.g}", ""},
		{"F(Q:" + counterFace + "):" + counterFace + "={t=P.t;z:=P.z;s:=P.s;g:=P.g}", ""},
		{"F(P:{t;z:t}):" + counterFace + "={t=P.t;z:=P.z;s:=P.s;g:=P.g}", ""},
		{"F(" + param + "):{t;z:P.t;x:I}={t=P.t;z:=P.z;s:=P.s;g:=P.g}", ""},
		{"F(" + param + "):{t;z:B.t}={t=P.t;z:=P.z;s:=P.s;g:=P.g}", ""},
		{"F(A:{})(" + param + "):" + counterFace + "={t=P.t;z:=P.z;s:=P.s;g:=P.g}", ""},
		{"F(P:{x:P.t;t;z:P.t}):" + counterFace + "={t=P.t;z:=P.z;s:=P.s;g:=P.g}", ""},
		// Parameters may have names of modules that come behind the functor.
		{"F(B:{})(C:{})(H:{}):" + counterFace + "=" + numberBody, "12"},
	})
	// A functor with two parameters, and one that nothing uses.
	const pair = "$A|$G|C:{f:(A.t>I)}={f:=[A.t]((A.g #0)+6)}|B=G(A)(C)|main (B.x+(A.g B.y))"
	checkUpgrades(t, pair, []upgradeTest{
		{pairFunctor, "6"},
		{"G(P:{t;z:t})(Q:{f:(P.t>I)}):{u=P.t;y:u;x:I;w:I}={u=P.t;y:=P.z;x:=((Q.f P.z)+(Q.f P.z));w:=x}", "12"},
		{"G(P:{t;z:t}):{u=P.t;y:u;x:I}={u=P.t;y:=P.z;x:=5}", "5"},
		{"G(Q:{f:(A.t>I)})(P:{t=A.t;z:t}):{u=P.t;y:u;x:I}={u=P.t;y:=P.z;x:=(Q.f P.z)}", "6"},
		{"G(Q:{f:(A.t>I)})(P:{t=A.t;z:t}):{x:I}={u=P.t;y:=P.z;x:=(Q.f A.z)}", ""},
		{"G(P:{t;z:t})(Q:{f:(P.t>I)}):{u;y:u;x:I}={u=P.t;y:=P.z;x:=(Q.f P.z)}", "6"},
		{"G(P:{t;z:t})(Q:{f:(P.t>I)}):{u;y:u;x:I}={u=I;y:=1;x:=(Q.f P.z)}", ""},
		{"G(Q:{f:(P.t>I)})(P:{t;z:t}):{u=P.t;y:u;x:I}={u=P.t;y:=P.z;x:=(Q.f P.z)}", ""},
	})
	checkUpgrades(t, "F(P:{}):{}={}|G(P:{}):{x:I}={x:=1}|main 1", []upgradeTest{
		{"F(P:{t}):{t=P.t;x:I}={t=I;x:=2}", ""},
		{"F(P:{t}):{x:I}={t=I;x:=2}", "1"},
		{"F:{}={}", "1"},
		{"G:{}={x:=2}", "1"},
		{"G:{}={}", ""},
		{"G(F:{}):{x:I}={x:=2}", "1"},
		{"G(P:{x:F.t}):{x:I}={x:=2}", ""},
	})
}

// TestUpgradesKeepTheSignature checks that nothing that a new unit offers in addition can be seen.
func TestUpgradesKeepTheSignature(t *testing.T) {
	text := linesText(upgradeLines)
	now, code := checkUpgrade(t, text, "A:{t=I;z:t;s:(t>t);g:(t>I);y:t}={t=I;y:=7;z:=0;s:=[t](#0+y);g:=[t]#0}")
	want := strings.Replace(text, "={t=I;z:=0;s:=[t](#0+1);g:=[t]#0}\n", "={t=I;y:=7;z:=0;s:=[t](#0+y);g:=[t]#0}\n", 1)
	if code != impl.UpgradeOk || now != want || now == text {
		t.Fatalf("UpgradeProgram = %q, %d, want %q", now, code, want)
	}
	for main, code := range map[string]int{"(A.g A.z)": impl.UpgradeOk, "(A.z+1)": impl.UpgradeCheck, "A.y": impl.UpgradeCheck} {
		if _, got := checkReplaceMain(t, now, main); got != code {
			t.Errorf("ReplaceMain with %s returns %d", main, got)
		}
	}
	if _, code := checkReplaceBody(t, now, "C", "{h:=A.y;x:=B.z}"); code != impl.UpgradeUnit {
		t.Errorf("ReplaceBody with what is hidden returns %d", code)
	}
}

func TestScopeBefore(t *testing.T) {
	const a, b = "A:" + counterFace, "B:" + counterFace
	for _, test := range []struct{ lines, name, want string }{
		{upgradeLines, "A", ""},
		{upgradeLines, "F", a},
		{upgradeLines, "B", a},
		{upgradeLines, "C", a + " " + b},
		{upgradeLines, "H", a + " " + b + " C:{x:B.t}"},
		// A functor is no module of the scope, wherever it is, and neither are its parameters.
		{"$F|$A|B=F(A)|main 1", "F", ""},
		{"$F|$A|B=F(A)|main 1", "A", ""},
		{"$F|$A|B=F(A)|main 1", "B", a},
		{"$F|G(P:{}):{}={}|H(P:{}):{}={}|main 1", "H", ""},
		{"P:{}={}|F(Q:{}):{}={}|A:{}={}|main 1", "A", "P:{}"},
		// Signatures are as they have been given, and those of made modules have the names of the arguments.
		{"A:{t=I;u=(t>t);x:u}={h:=1;u=(I>I);t=I;x:=[I]h}|C:{}={x:=A.x}|main 1", "C", "A:{t=I;u=(t>t);x:u}"},
		{"$A|$G|C:{f:(A.t>I)}={f:=A.g}|B=G(A)(C)|D:{}={}|main 1", "B", a + " C:{f:(A.t>I)}"},
		{"$A|$G|C:{f:(A.t>I)}={f:=A.g}|B=G(A)(C)|D:{}={}|main 1", "D", a + " C:{f:(A.t>I)} B:{u=A.t;y:u;x:I}"},
		// As many modules as there may be before the last one.
		{"A:{}={}|B:{}={}|C:{}={}|D:{}={}|E:{}={}|F:{}={}|G:{}={}|H:{}={}|main 1", "H", "A:{} B:{} C:{} D:{} E:{} F:{} G:{}"},
		{"H:{}={}|G:{}={}|F:{}={}|E:{}={}|D:{}={}|C:{}={}|B:{}={}|A:{}={}|main 1", "A", "H:{} G:{} F:{} E:{} D:{} C:{} B:{}"},
		{"H:{}={}|G:{}={}|F:{}={}|E:{}={}|D:{}={}|C:{}={}|B:{}={}|A:{}={}|main 1", "H", ""},
	} {
		text := linesText(test.lines)
		if got, code := checkScopeBefore(t, text, test.name); code != impl.UpgradeOk || got != test.want {
			t.Errorf("ScopeBefore(%q, %s) = %s, %d, want %s", text, test.name, got, code, test.want)
		}
		// The expression must check, too, though it does not matter otherwise.
		lines := programLines(text)
		bad := programText(append(lines[:len(lines)-1], "main Y.x")...)
		if got, code := checkScopeBefore(t, bad, test.name); code != impl.UpgradeCheck || got != "" {
			t.Errorf("ScopeBefore(%q, %s) = %s, %d", bad, test.name, got, code)
		}
		for _, name := range append([]string{"P", "Q", "X"}, noNames...) {
			if strings.Contains("\n"+text, "\n"+name+":") && name != "" {
				continue
			}
			if got, code := checkScopeBefore(t, text, name); code != impl.UpgradeName || got != "" {
				t.Errorf("ScopeBefore(%q, %.20q) = %s, %d", text, name, got, code)
			}
		}
	}
	for _, name := range append([]string{"A", "B"}, noNames...) {
		if got, code := checkScopeBefore(t, "main 1\n", name); code != impl.UpgradeName || got != "" {
			t.Errorf("ScopeBefore of no declarations and %.20q = %s, %d", name, got, code)
		}
		if got, code := checkScopeBefore(t, "main A.x\n", name); code != impl.UpgradeCheck || got != "" {
			t.Errorf("ScopeBefore of a program that does not check and %.20q = %s, %d", name, got, code)
		}
	}
}

func TestReplacedMains(t *testing.T) {
	good := linesText(upgradeLines)
	for main, run := range map[string]string{
		"1": "1", "99": "99", "H.w": "2", "(H.w+1)": "3", "((A.g (A.s A.z))+(H.w+10))": "13", "[I]#0": "[I]#0", "(B.g (B.s C.x))": "4", "?<H.w,(A.g A.z),7>": "0", "(A.g A.z)": "0",
		// Types are as they become, and the type of the expression may be any one.
		"[A.t](A.g #0)": "[I]([I]#0 #0)", "[B.t]C.x": "[I](" + twiceOfA + " 0)",
		"(A.z+1)": "", "(B.s A.z)": "", "A.x": "", "Z.z": "", "F.z": "", "P.z": "", "x": "", "#0": "", "[I]#1": "", "[t]1": "", "[Z.t]1": "", "(1 1)": "", "?<A.z,1,2>": "", "[F.t]1": "", "[" + chainText(8) + "]1": "",
	} {
		code := impl.UpgradeCheck
		if run != "" {
			code = impl.UpgradeOk
		}
		now, got := checkReplaceMain(t, good, main)
		if got != code || got == impl.UpgradeOk && runOf(t, now) != run {
			t.Errorf("ReplaceMain with %s = %q, %d", main, now, got)
		}
		// An expression that makes a program check that did not; in one that does not check before it, there is none.
		for _, old := range []string{"main (1 1)", "main Z.x", "main x", "main #0", "main (A.z+1)"} {
			text := programText(append(programLines(good)[:5], old)...)
			if again, k := checkReplaceMain(t, text, main); k != code || again != now {
				t.Errorf("ReplaceMain of %q with %s = %q, %d", text, main, again, k)
			}
		}
		for _, text := range []string{strings.Replace(good, "z:=0", "z:=[I]0", 1), strings.Replace(good, "B=F(A)", "B=F(F)", 1), strings.Replace(good, "B=F(A)", "B=A(A)", 1), strings.Replace(good, "{w:I}={w:=(B.g C.x)}", "{w:I}={}", 1)} {
			if again, k := checkReplaceMain(t, text, main); k != impl.UpgradeCheck || again != "" {
				t.Errorf("ReplaceMain of %q with %s = %q, %d", text, main, again, k)
			}
		}
	}
	for main, code := range map[string]int{"1": impl.UpgradeOk, "[I](1+#0)": impl.UpgradeOk, "A.x": impl.UpgradeCheck, "(1 1)": impl.UpgradeCheck} {
		for _, text := range []string{"main 2\n", "main (1 1)\n"} {
			if _, got := checkReplaceMain(t, text, main); got != code {
				t.Errorf("ReplaceMain of %q with %s returns %d", text, main, got)
			}
		}
	}
}

// TestReplacementsThatUndoOthers replaces bodies and expressions, and puts the old ones back.
func TestReplacementsThatUndoOthers(t *testing.T) {
	text := linesText(upgradeLines)
	steps := []struct{ name, there, body string }{{"A", numberBody, unaryBody}, {"F", "{t=P.t;z:=P.z;s:=[t](P.s (P.s #0));g:=P.g}", doubledBody}, {"C", "{x:=(B.s B.z)}", "{x:=B.z}"}, {"H", "{w:=(B.g C.x)}", "{w:=5}"}, {"A", unaryBody, doubledBody}}
	texts := []string{text}
	for _, step := range steps {
		now, code := checkReplaceBody(t, texts[len(texts)-1], step.name, step.body)
		if code != impl.UpgradeOk || now == texts[len(texts)-1] {
			t.Fatalf("%s with the body %s: %q, %d", step.name, step.body, now, code)
		}
		texts = append(texts, now)
	}
	for i := len(steps) - 1; i >= 0; i-- {
		back, code := checkReplaceBody(t, texts[i+1], steps[i].name, steps[i].there)
		if code != impl.UpgradeOk || back != texts[i] {
			t.Errorf("%s with the old body %s: %q, %d, want %q", steps[i].name, steps[i].there, back, code, texts[i])
		}
		u, _ := splitUnit(programLines(texts[i])[strings.Index("AFBCH", steps[i].name)])
		if back, code := checkUpgrade(t, texts[i+1], u.String()); code != impl.UpgradeOk || back != texts[i] {
			t.Errorf("the old unit %s: %q, %d, want %q", u, back, code, texts[i])
		}
	}
	now, _ := checkReplaceMain(t, text, "A.z")
	back, code := checkReplaceMain(t, now, "((A.g (A.s A.z))+(H.w+10))")
	if now == text || back != text || code != impl.UpgradeOk {
		t.Errorf("ReplaceMain with the old expression = %q, %d", back, code)
	}
}
