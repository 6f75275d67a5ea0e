package tests

import (
	"maps"
	"slices"
	"strings"
	"testing"

	"loop.example/modlink/impl"
)

// noNames lists texts that no declaration defines, of which most are no names at all.
var noNames = []string{"", "I", "Z", "a", "t", "AA", "A ", " A", "A.", "A.t", "A:", "@", "[", "0", "É", "\xff", "A\x00", "\n", "main", strings.Repeat("A", 1000000)}

// beforeTexts returns the text of the scope before the line of a program that defines a name, the index of this line,
// and a code.
func beforeTexts(text, name string) (string, int, int) {
	if checkTexts(text).code != impl.ProgOk {
		return "", 0, impl.UpgradeCheck
	}
	lines := programLines(text)
	for at, line := range lines[:len(lines)-1] {
		if line[:1] == name {
			return checkTexts(programText(append(slices.Clone(lines[:at]), "main 1")...)).scope, at, impl.UpgradeOk
		}
	}
	return "", 0, impl.UpgradeName
}

// replacedText returns the text of a program in which a unit has another body, if it and the other units are accepted,
// and a code.
func replacedText(text, name, body string, others ...unitTexts) (string, int) {
	scope, at, code := beforeTexts(text, name)
	if code != impl.UpgradeOk {
		return "", code
	}
	lines := programLines(text)
	u, ok := splitUnit(lines[at])
	if !ok {
		return "", impl.UpgradeName
	}
	u.body = body
	for _, v := range append(others, u) {
		if checkUnitTexts(scope, v) != impl.UnitOk {
			return "", impl.UpgradeUnit
		}
	}
	lines[at] = u.String()
	return programText(lines...), impl.UpgradeOk
}

// replacedMainText returns the text of a program with another expression, if it checks, and a code.
func replacedMainText(text, main string) (string, int) {
	lines := programLines(text)
	lines[len(lines)-1] = "main " + main
	if now := programText(lines...); checkTexts(now).code == impl.ProgOk {
		return now, impl.UpgradeOk
	}
	return "", impl.UpgradeCheck
}

// plainTexts returns, for each module of a program, what the types that it offers are linked to. There is none, if the
// program cannot be linked.
func plainTexts(text string) map[string]map[string]string {
	r := checkTexts(text)
	if r.code != impl.ProgOk {
		return nil
	}
	linked := linkTexts(text)
	if linked.large {
		return nil
	}
	plain := map[string]map[string]string{}
	for _, one := range strings.Fields(r.scope) {
		mod, sig, _ := strings.Cut(one, ":")
		plain[mod] = map[string]string{}
		for _, part := range splitSig(sig) {
			if n, sep, _ := splitItem(part); sep != ":" {
				plain[mod][n] = linked.types[mod+"."+n]
			}
		}
	}
	return plain
}

// checkReplaced compares a result with the text of a program and a code.
func checkReplaced(t *testing.T, what string, got impl.Program, code int, want string, wanted int) {
	t.Helper()
	if code != wanted || impl.FormatProgram(got) != want || want == "" && !zeroProgram(got) {
		t.Fatalf("%s = %.800q, %d, want %.800q, %d", what, impl.FormatProgram(got), code, want, wanted)
	}
}

// checkStillChecks checks promise 11 for a program, and another one in which the body of the unit with this name was
// replaced.
func checkStillChecks(t *testing.T, p, q impl.Program, name string) {
	t.Helper()
	if code, at := impl.CheckProgram(q); code != impl.ProgOk || at != len(p.Decls) || len(q.Decls) != len(p.Decls) {
		t.Fatalf("CheckProgram(%.800q) = %d, %d", impl.FormatProgram(q), code, at)
	}
	old, _ := impl.MainType(p)
	now, _ := impl.MainType(q)
	before, _ := impl.ProgramScope(p)
	behind, _ := impl.ProgramScope(q)
	if !equalTypes(old, now) || !equalScopes(before, behind) || !equalExprs(p.Main, q.Main) {
		t.Fatalf("%.800q has the type %s, and %.800q has %s", impl.FormatProgram(p), impl.FormatType(old), impl.FormatProgram(q), impl.FormatType(now))
	}
	for i, d := range p.Decls {
		want := d
		if d.Unit.Name == name {
			want.Unit.Body = q.Decls[i].Unit.Body
		}
		if !equalPrograms(program(number(1), q.Decls[i]), program(number(1), want)) {
			t.Fatalf("declaration %d of %.800q is another one than in %.800q", i, impl.FormatProgram(q), impl.FormatProgram(p))
		}
	}
	if dirty, set := impl.DirtyNames(p, q), impl.RecheckSet(p, q); !impl.SameNames(p, q) || len(dirty) > 0 || len(set) > 1 {
		t.Fatalf("from %.800q to %.800q, dirty are %v, and to be checked again are %v", impl.FormatProgram(p), impl.FormatProgram(q), dirty, set)
	}
	if _, code := impl.RunProgram(q, 400); code == impl.RunStuck {
		t.Fatalf("%.800q gets stuck", impl.FormatProgram(q))
	}
}

// checkReplaceBody compares ReplaceBody, for the texts of a program that is valid and of a structure, with what follows
// from the texts, and returns the text of the new program, and the code.
func checkReplaceBody(t *testing.T, text, name, body string) (string, int) {
	t.Helper()
	want, wanted := replacedText(text, name, body)
	p := parsedProgram(t, text)
	q, code := impl.ReplaceBody(p, name, parsedStruct(t, body))
	checkReplaced(t, "ReplaceBody of "+text+name+" and "+body, q, code, want, wanted)
	if code == impl.UpgradeOk {
		checkStillChecks(t, p, q, name)
	}
	return want, code
}

// checkUpgrade does the same for UpgradeProgram and the text of a unit.
func checkUpgrade(t *testing.T, text, unit string) (string, int) {
	t.Helper()
	u, ok := splitUnit(unit)
	if !ok {
		t.Fatalf("splitUnit rejects %q", unit)
	}
	want, wanted := replacedText(text, u.name, u.body, u)
	p := parsedProgram(t, text)
	q, code := impl.UpgradeProgram(p, parsedUnit(t, unit))
	checkReplaced(t, "UpgradeProgram of "+text+"and "+unit, q, code, want, wanted)
	if code == impl.UpgradeOk {
		checkStillChecks(t, p, q, u.name)
	}
	return want, code
}

// checkReplaceMain does the same for ReplaceMain and the text of an expression.
func checkReplaceMain(t *testing.T, text, main string) (string, int) {
	t.Helper()
	want, wanted := replacedMainText(text, main)
	q, code := impl.ReplaceMain(parsedProgram(t, text), parsedExpr(t, main))
	checkReplaced(t, "ReplaceMain of "+text+"and "+main, q, code, want, wanted)
	return want, code
}

// checkScopeBefore does the same for ScopeBefore, and returns the text of the scope, and the code.
func checkScopeBefore(t *testing.T, text, name string) (string, int) {
	t.Helper()
	want, _, wanted := beforeTexts(text, name)
	scope, code := impl.ScopeBefore(parsedProgram(t, text), name)
	if code != wanted || scopeText(scope) != want {
		t.Fatalf("ScopeBefore(%.800q, %.20q) = %s, %d, want %s, %d", text, name, scopeText(scope), code, want, wanted)
	}
	return want, code
}

// checkPlainSame compares PlainSame, both ways, with what follows from the texts.
func checkPlainSame(t *testing.T, old, now, name string) bool {
	t.Helper()
	same, _ := checkPlainSames(t, old, now, name)
	return len(same) > 0
}

// checkPlainSames does the same for several names, and returns those of which the types are the same, and the others.
func checkPlainSames(t *testing.T, old, now string, names ...string) (same, different []string) {
	t.Helper()
	p, q, before, behind := parsedProgram(t, old), parsedProgram(t, now), plainTexts(old), plainTexts(now)
	for _, name := range names {
		a, okOld := before[name]
		b, okNow := behind[name]
		want := okOld && okNow && maps.Equal(a, b)
		if got, back := impl.PlainSame(p, q, name), impl.PlainSame(q, p, name); got != want || back != want {
			t.Fatalf("PlainSame(%.800q, %.800q, %.20q) = %v, and %v the other way, want %v", old, now, name, got, back, want)
		}
		if want {
			same = append(same, name)
		} else {
			different = append(different, name)
		}
	}
	return same, different
}

// checkAllPlainSame does the same for each name that one of two programs defines.
func checkAllPlainSame(t *testing.T, old, now string) (same, different []string) {
	t.Helper()
	var names []string
	for _, d := range append(splitDecls(old), splitDecls(now)...) {
		if !slices.Contains(names, d.name) {
			names = append(names, d.name)
		}
	}
	return checkPlainSames(t, old, now, names...)
}
