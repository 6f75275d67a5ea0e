package tests

import (
	"maps"
	"slices"
	"strings"
	"testing"

	"loop.example/modlink/impl"
)

// linkedTexts is what is known by replacements in texts about the modules of a program that checks: what their
// types and values have become, by names like "A.t" and in the order of linking.
type linkedTexts struct {
	types, vals map[string]string
	binds, defs []string // like "A.t=I" and "A.x:=1"
	large       bool     // one that comes next is too large
}

// linkTexts links the modules in the text of a program that checks.
func linkTexts(text string) linkedTexts {
	r := linkedTexts{types: map[string]string{}, vals: map[string]string{}}
	functors := map[string]unitTexts{}
	lines := programLines(text)
	for _, line := range lines[:len(lines)-1] {
		made, functor, args, isMade := splitMade(line)
		u, _ := splitUnit(line)
		switch {
		case isMade:
			f := functors[functor]
			r.link(made, renamedText(f.body, f.params, args))
		case len(u.params) > 0:
			functors[u.name] = u
		default:
			r.link(u.name, u.body)
		}
	}
	return r
}

func (r *linkedTexts) link(mod, body string) {
	for _, part := range splitStruct(body) {
		match := defPattern.FindStringSubmatch(part)
		n, ok := mod+"."+match[1], false
		if r.large {
			return
		}
		if match[2] == "=" {
			r.types[n], ok = r.typeText(mod, match[3])
			r.binds = append(r.binds, n+"="+r.types[n])
		} else {
			r.vals[n], ok = r.exprText(mod, match[3])
			r.defs = append(r.defs, n+":="+r.vals[n])
		}
		r.large = !ok
	}
}

// typeText returns what a type in a module becomes, and whether it is small enough. Names that are not known stay.
func (r *linkedTexts) typeText(mod, text string) (string, bool) {
	linked := pathPattern.ReplaceAllStringFunc(text, func(n string) string {
		full := n
		if len(n) == 1 {
			full = mod + "." + n
		}
		if to, ok := r.types[full]; ok {
			return to
		}
		return n
	})
	return linked, smallType(linked)
}

// exprText returns what an expression in a module becomes, and whether it and its types are small enough.
func (r *linkedTexts) exprText(mod, text string) (string, bool) {
	small := true
	text = argPattern.ReplaceAllStringFunc(text, func(arg string) string {
		linked, ok := r.typeText(mod, arg[1:len(arg)-1])
		small = small && ok
		return "[" + linked + "]"
	})
	to := maps.Clone(r.vals)
	for n, linked := range r.vals {
		if strings.HasPrefix(n, mod+".") {
			to[n[2:]] = linked
		}
	}
	text = expandText(text, to)
	return text, small && withinText(text)
}

// defsText returns definitions like "A.x:=1;A.y:=2".
func defsText(list []impl.Def) string {
	var parts []string
	for _, d := range list {
		parts = append(parts, impl.FormatExpr(path(d.Mod, d.Name))+":="+impl.FormatExpr(d.Expr))
	}
	return strings.Join(parts, ";")
}

// checkLinked compares all functions, for the text of a program that checks, with replacements in texts. It
// returns the code of LinkMain.
func checkLinked(t *testing.T, text string) int {
	t.Helper()
	p, want := parsedProgram(t, text), linkTexts(text)
	if want.large {
		checkNotLinked(t, p, impl.LinkLarge)
		return impl.LinkLarge
	}
	if binds, code := impl.LinkTypes(p); code != impl.LinkOk || bindsText(binds) != strings.Join(want.binds, " ") {
		t.Fatalf("LinkTypes(%q) = %s, %d, want %v", text, bindsText(binds), code, want.binds)
	}
	if list, code := impl.LinkDefs(p); code != impl.LinkOk || defsText(list) != strings.Join(want.defs, ";") {
		t.Fatalf("LinkDefs(%q) = %s, %d, want %v", text, defsText(list), code, want.defs)
	}
	together := "I"
	for _, n := range append(slices.Sorted(maps.Keys(want.types)), "Z.t", "t") {
		checkPlain(t, p, want, n)
		if longer := "(" + n + ">" + together + ")"; smallType(longer) {
			together = longer
		}
	}
	checkPlain(t, p, want, together)
	lines := programLines(text)
	main, ok := want.exprText("", strings.TrimPrefix(lines[len(lines)-1], "main "))
	if !ok {
		checkMainNotLinked(t, p, impl.LinkLarge)
		return impl.LinkLarge
	}
	checkLinkedMain(t, p, main)
	return impl.LinkOk
}

// checkPlain compares PlainType with a replacement in the text of a type.
func checkPlain(t *testing.T, p impl.Program, linked linkedTexts, text string) {
	t.Helper()
	want, code := "", impl.LinkLarge
	if plain, ok := linked.typeText("", text); ok {
		want, code = plain, impl.LinkOk
	}
	checkPlainType(t, p, parsed(t, text), want, code)
}

func checkPlainType(t *testing.T, p impl.Program, typ impl.Type, want string, wanted int) {
	t.Helper()
	if got, code := impl.PlainType(p, typ); code != wanted || impl.FormatType(got) != want || want == "" && !zeroType(got) {
		t.Fatalf("PlainType(%q, %s) = %s, %d, want %s, %d", impl.FormatProgram(p), impl.FormatType(typ), impl.FormatType(got), code, want, wanted)
	}
}

// checkLinkedMain checks the functions for the expression of a program that is linked to this text.
func checkLinkedMain(t *testing.T, p impl.Program, want string) {
	t.Helper()
	if e, code := impl.LinkMain(p); code != impl.LinkOk || impl.FormatExpr(e) != want {
		t.Fatalf("LinkMain(%q) = %s, %d, want %s", impl.FormatProgram(p), impl.FormatExpr(e), code, want)
	}
	_, _, steps := runText(want, 400)
	for _, fuel := range []int{0, steps - 1, steps, 400} {
		checkProgramRun(t, p, want, fuel)
	}
}

// checkProgramRun compares RunProgram with the evaluation of the text of the linked expression.
func checkProgramRun(t *testing.T, p impl.Program, linked string, fuel int) {
	t.Helper()
	want, wanted := "", impl.RunInvalid
	if 0 <= fuel && fuel <= 400 {
		want, wanted, _ = runText(linked, fuel)
	}
	if got, code := impl.RunProgram(p, fuel); code != wanted || impl.FormatExpr(got) != want || want == "" && !zeroExpr(got) {
		t.Fatalf("RunProgram(%q, %d) = %s, %d, want %s, %d", impl.FormatProgram(p), fuel, impl.FormatExpr(got), code, want, wanted)
	}
}

// checkNotLinked checks that all functions return this code for a program.
func checkNotLinked(t *testing.T, p impl.Program, wanted int) {
	t.Helper()
	if binds, code := impl.LinkTypes(p); code != wanted || len(binds) != 0 {
		t.Errorf("LinkTypes(%.300q) = %v, %d, want %d", impl.FormatProgram(p), binds, code, wanted)
	}
	if list, code := impl.LinkDefs(p); code != wanted || len(list) != 0 {
		t.Errorf("LinkDefs(%.300q) = %v, %d, want %d", impl.FormatProgram(p), list, code, wanted)
	}
	for _, typ := range []impl.Type{num, name("A", "t"), name("", "t"), {}, {Kind: impl.TypeFun}} {
		if got, code := impl.PlainType(p, typ); code != wanted || !zeroType(got) {
			t.Errorf("PlainType(%.300q, %s) = %v, %d, want %d", impl.FormatProgram(p), impl.FormatType(typ), got, code, wanted)
		}
	}
	checkMainNotLinked(t, p, wanted)
}

// checkMainNotLinked checks that the functions for the expression of a program return this code, or RunInvalid.
func checkMainNotLinked(t *testing.T, p impl.Program, wanted int) {
	t.Helper()
	if e, code := impl.LinkMain(p); code != wanted || !zeroExpr(e) {
		t.Errorf("LinkMain(%.300q) = %v, %d, want %d", impl.FormatProgram(p), e, code, wanted)
	}
	for _, fuel := range []int{-1, 0, 400, 401} {
		if e, code := impl.RunProgram(p, fuel); code != impl.RunInvalid || !zeroExpr(e) {
			t.Errorf("RunProgram(%.300q, %d) = %v, %d", impl.FormatProgram(p), fuel, e, code)
		}
	}
}
