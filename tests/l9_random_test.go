package tests

import (
	"math/rand"
	"slices"
	"strconv"
	"strings"
	"testing"

	"loop.example/modlink/impl"
)

// growingProgram makes the text of a program whose types and values mostly use those of the modules before them,
// so that many of them become large.
func growingProgram(random *rand.Rand) string {
	const sig = "{t;x:I;f:(I>I)}"
	lines, mods, functors := []string{}, []string{}, map[string]int{}
	for _, i := range random.Perm(12)[:1+random.Intn(8)] {
		n := "ABCDEFGHJKPQ"[i : i+1]
		switch kind := random.Intn(4); {
		case kind == 0:
			params, known := "", slices.Clone(mods)
			for _, p := range []string{"R", "S", "T"}[:1+random.Intn(3)] {
				params, known = params+"("+p+":"+sig+")", append(known, p, p)
				functors[n]++
			}
			lines = append(lines, n+params+":"+sig+"="+growingBody(random, known))
		case kind < 3 && len(functors) > 0 && len(mods) > 0:
			functor := mapFirst(functors)
			line := n + "=" + functor
			for range functors[functor] {
				line += "(" + mods[random.Intn(len(mods))] + ")"
			}
			lines, mods = append(lines, line), append(mods, n)
		default:
			lines, mods = append(lines, n+":"+sig+"="+growingBody(random, mods)), append(mods, n)
		}
	}
	return programText(append(lines, "main "+growingExpr(random, mods, false, 5))...)
}

// mapFirst returns the smallest key.
func mapFirst(m map[string]int) string {
	first := ""
	for key := range m {
		if first == "" || key < first {
			first = key
		}
	}
	return first
}

// growingBody makes a structure that uses these modules. It may hide a type and a value.
func growingBody(random *rand.Rand, mods []string) string {
	leaves := []string{"I"}
	for _, n := range mods {
		leaves = append(leaves, n+".t", n+".t")
	}
	typ := func() string { return randomTypeOver(random, leaves, 3) }
	parts := []string{"t=" + typ(), "x:=" + growingExpr(random, mods, false, 4), "f:=[I]" + growingExpr(random, mods, true, 3)}
	if random.Intn(2) == 0 {
		parts = slices.Insert(parts, 1, "u=("+typ()+">t)", "h:=["+typ()+"][t]"+growingExpr(random, mods, false, 2))
	}
	if random.Intn(2) == 0 {
		parts = append(parts, "y:=(x+(f x))")
	}
	return "{" + strings.Join(parts, ";") + "}"
}

// growingExpr makes an expression of the type of numbers.
func growingExpr(random *rand.Rand, mods []string, inFun bool, depth int) string {
	mod := func() string { return mods[random.Intn(len(mods))] }
	next := func() string { return growingExpr(random, mods, inFun, depth-1) }
	switch kind := random.Intn(8); {
	case depth == 1 && inFun && kind < 3:
		return "#0"
	case (depth == 1 || kind == 0) && len(mods) > 0:
		return mod() + ".x"
	case depth == 1 || kind == 0:
		return strconv.Itoa(random.Intn(100))
	case kind < 4 && len(mods) > 0:
		return "(" + mod() + ".f " + next() + ")"
	case kind == 4:
		return "?<" + next() + "," + next() + "," + next() + ">"
	case kind == 5 && len(mods) > 0:
		n := mod()
		return "([(" + n + ".t>" + n + ".t)]" + growingExpr(random, mods, false, depth-1) + " [" + n + ".t]#0)"
	}
	return "(" + next() + "+" + next() + ")"
}

// TestRandomLinks compares all functions with replacements in texts, for programs that grow when they are linked.
func TestRandomLinks(t *testing.T) {
	random := rand.New(rand.NewSource(41))
	codes, mains, made := map[int]int{}, map[int]int{}, 0
	for range 1500 {
		text := growingProgram(random)
		if checkProgram(t, text).code != impl.ProgOk {
			continue
		}
		p := parsedProgram(t, text)
		_, code := impl.LinkTypes(p)
		codes[code]++
		if code == impl.LinkOk {
			_, mainCode := impl.LinkMain(p)
			mains[mainCode]++
			if slices.ContainsFunc(programLines(text), isMadeText) {
				made++
			}
		}
	}
	checkCodes(t, codes, impl.LinkOk, impl.LinkLarge)
	checkCodes(t, mains, impl.LinkOk, impl.LinkLarge)
	if made < 300 {
		t.Errorf("%d programs with modules that functors make are linked", made)
	}
}

// linkableProgram makes the text of a program that checks.
func linkableProgram(random *rand.Rand) string {
	for {
		text := growingProgram(random)
		if random.Intn(2) == 0 {
			text = randomProgram(random, 8)
		}
		p, ok := impl.ParseProgram(text)
		if code, _ := impl.CheckProgram(p); ok && code == impl.ProgOk {
			return text
		}
	}
}

// TestLinkedProgramsHaveTheirTypes checks promise 9: the expression that a program is linked to has no names, the
// type without abstraction, and does not get stuck. So do the values that modules offer.
func TestLinkedProgramsHaveTheirTypes(t *testing.T) {
	random := rand.New(rand.NewSource(42))
	typed, functions, steps, values, codes := 0, 0, 0, 0, map[int]int{}
	for range 2500 {
		text := linkableProgram(random)
		p := parsedProgram(t, text)
		list, code := impl.LinkDefs(p)
		if code != impl.LinkOk {
			continue
		}
		values += checkOfferedValues(t, p, list)
		e, code := impl.LinkMain(p)
		if code != impl.LinkOk {
			continue
		}
		typ, _ := impl.MainType(p)
		want, ok := checkLinkedType(t, p, e, typ)
		result, end := impl.RunProgram(p, 400)
		if codes[end]++; end == impl.RunStuck || end == impl.RunInvalid || end == impl.RunValue && !impl.ValueExpr(result) {
			t.Fatalf("RunProgram(%q) = %s, %d", text, impl.FormatExpr(result), end)
		}
		if !ok {
			continue // a type is too large, without abstraction
		}
		if typed++; want != "I" {
			functions++
		}
		_, n := checkTypedRun(t, nil, e, want)
		steps += n
	}
	if typed < 1000 || functions < 300 || steps < 5000 || values < 5000 {
		t.Errorf("%d expressions have their types, %d are functions, they take %d steps; %d values have their types", typed, functions, steps, values)
	}
	checkCodes(t, codes, impl.RunValue)
}

// checkLinkedType checks that what a part of a program of this type is linked to has no names, and the type without
// abstraction, which it returns. It returns false if this or another type that is inferred is too large.
func checkLinkedType(t *testing.T, p impl.Program, linked impl.Expr, typ impl.Type) (string, bool) {
	t.Helper()
	if text := impl.FormatExpr(linked); strings.ContainsAny(text, "abcdefghijklmnopqrstuvwxyz") || !impl.PureExpr(linked) {
		t.Fatalf("%s has names, in %q", text, impl.FormatProgram(p))
	}
	plain, code := impl.PlainType(p, typ)
	got, inferred := impl.InferExpr(nil, linked)
	switch {
	case inferred == impl.CheckLarge:
		return "", false
	case inferred != impl.CheckOk || code != impl.LinkOk || !equalTypes(got, plain) || len(impl.TypeNames(plain)) != 0:
		t.Fatalf("%s has the type %s, %d, want %s, %d, in %q", impl.FormatExpr(linked), impl.FormatType(got), inferred, impl.FormatType(plain), code, impl.FormatProgram(p))
	}
	return impl.FormatType(plain), true
}

// checkOfferedValues checks the types of those values of a program that signatures offer, and returns their number.
func checkOfferedValues(t *testing.T, p impl.Program, list []impl.Def) int {
	t.Helper()
	scope, _ := impl.ProgramScope(p)
	values := 0
	for _, d := range list {
		typ, code := impl.PathType(scope, d.Mod, d.Name)
		if code != impl.CheckOk {
			continue
		}
		if _, ok := checkLinkedType(t, p, d.Expr, typ); ok {
			values++
		}
	}
	return values
}

// TestLinkingReplacesNames checks that types and expressions of a program become what they are by replacements with
// what LinkTypes and LinkDefs return, which are all definitions in the order of their modules.
func TestLinkingReplacesNames(t *testing.T) {
	random := rand.New(rand.NewSource(43))
	linked := 0
	for range 2500 {
		text := linkableProgram(random)
		p := parsedProgram(t, text)
		binds, code := impl.LinkTypes(p)
		list, defsCode := impl.LinkDefs(p)
		if code != defsCode {
			t.Fatalf("LinkTypes(%q) = %d, LinkDefs = %d", text, code, defsCode)
		}
		if code != impl.LinkOk {
			continue
		}
		linked++
		if got, want := linkedNames(binds, list), definedNames(text); got != want {
			t.Fatalf("%q is linked to %s, want %s", text, got, want)
		}
		for range 5 {
			typ := randomTypeOver(random, []string{"I", "t", "A.t", "B.t", "C.t", "D.t", "A.u", "B.u", "Z.t"}, 3)
			want, ok := impl.SubstType(parsed(t, typ), binds)
			checkPlainType(t, p, parsed(t, typ), impl.FormatType(want), codeFor(ok))
		}
		main := argPattern.ReplaceAllStringFunc(impl.FormatExpr(p.Main), func(arg string) string {
			typ, _ := impl.SubstType(parsed(t, arg[1:len(arg)-1]), binds)
			return "[" + impl.FormatType(typ) + "]"
		})
		e, _ := impl.ParseExpr(main)
		want, ok := impl.ExpandExpr(list, e)
		if got, code := impl.LinkMain(p); code != codeFor(ok) || !equalExprs(got, want) {
			t.Fatalf("LinkMain(%q) = %s, %d, want %s", text, impl.FormatExpr(got), code, impl.FormatExpr(want))
		}
	}
	if linked < 1000 {
		t.Errorf("%d programs are linked", linked)
	}
}

// linkedNames returns the names in results of LinkTypes and of LinkDefs.
func linkedNames(binds []impl.Bind, list []impl.Def) string {
	types, vals := "", ""
	for _, b := range binds {
		types += b.Mod + "." + b.Name + " "
	}
	for _, d := range list {
		vals += d.Mod + "." + d.Name + " "
	}
	return types + "and " + vals
}

// definedNames returns the same for the definitions in the text of a program.
func definedNames(text string) string {
	types, vals, bodies := "", "", map[string]string{}
	for _, line := range programLines(text) {
		u, _ := splitUnit(line)
		made, functor, _, isMade := splitMade(line)
		n, body := u.name, u.body
		if isMade {
			n, body = made, bodies[functor]
		}
		if bodies[n] = body; n == "" || len(u.params) > 0 {
			continue
		}
		for _, part := range splitStruct(body) {
			if part[1] == '=' {
				types += n + "." + part[:1] + " "
			} else {
				vals += n + "." + part[:1] + " "
			}
		}
	}
	return types + "and " + vals
}

// TestMadeModulesLinkLikeUnits writes modules that functors make as units, which changes nothing in the results.
func TestMadeModulesLinkLikeUnits(t *testing.T) {
	random := rand.New(rand.NewSource(44))
	written, codes := 0, map[int]int{}
	for range 3000 {
		text := linkableProgram(random)
		lines, functors := programLines(text), map[string]unitTexts{}
		for i, line := range lines {
			if made, functor, args, ok := splitMade(line); ok {
				f := functors[functor]
				lines[i] = unitTexts{made, nil, renamedText(f.face, f.params, args), renamedText(f.body, f.params, args)}.String()
				written++
			} else if u, ok := splitUnit(line); ok {
				functors[u.name] = u
			}
		}
		p, q := parsedProgram(t, text), parsedProgram(t, programText(lines...))
		if code, _ := impl.CheckProgram(q); code != impl.ProgOk {
			continue // a type in one of the units is too large
		}
		want, code := impl.LinkMain(p)
		codes[code]++
		if got, k := impl.LinkMain(q); k != code || !equalExprs(got, want) {
			t.Fatalf("LinkMain(%q) = %s, %d, want %s, %d as for %q", programText(lines...), impl.FormatExpr(got), k, impl.FormatExpr(want), code, text)
		}
		binds, _ := impl.LinkTypes(p)
		list, _ := impl.LinkDefs(p)
		otherBinds, _ := impl.LinkTypes(q)
		otherList, _ := impl.LinkDefs(q)
		if bindsText(binds) != bindsText(otherBinds) || defsText(list) != defsText(otherList) {
			t.Fatalf("%q is not linked like %q", programText(lines...), text)
		}
	}
	checkCodes(t, codes, impl.LinkOk, impl.LinkLarge)
	if written < 1000 {
		t.Errorf("%d modules have been written as units", written)
	}
}
