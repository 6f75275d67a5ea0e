package tests

import (
	"math/rand"
	"slices"
	"strings"
	"testing"

	"loop.example/modlink/impl"
)

// TestRandomPrograms compares all functions with replacements in texts, for programs that mostly check and
// then for changed ones.
func TestRandomPrograms(t *testing.T) {
	random := rand.New(rand.NewSource(32))
	codes, made, dependent := map[int]int{}, 0, 0
	for range 1500 {
		text := randomProgram(random, 8)
		r := checkProgram(t, text)
		codes[r.code]++
		for _, line := range programLines(text)[:r.at] {
			if _, functor, _, ok := splitMade(line); ok {
				made++
				if paramsMention(r.functors[functor].params) {
					dependent++
				}
			}
		}
		for range 4 {
			if changed := changedProgram(random, text); isProgramText(changed) {
				codes[checkProgram(t, changed).code]++
			} else {
				checkNoProgram(t, changed)
			}
		}
	}
	checkCodes(t, codes, impl.ProgOk, impl.ProgUnit, impl.ProgFunctor, impl.ProgArgs, impl.ProgMain)
	// No program has a scope that is not valid: a unit that is accepted has a new name and mentions only types
	// that there are, the arguments of a functor have the types of its parameters, and there are at most as many
	// declarations as a scope may have modules.
	if made < 1000 || dependent < 200 || codes[impl.ProgScope] != 0 {
		t.Errorf("%d modules are made by functors, %d with parameters that mention others, %d scopes are not valid", made, dependent, codes[impl.ProgScope])
	}
}

// paramsMention reports whether a parameter mentions another one.
func paramsMention(params []string) bool {
	return slices.ContainsFunc(params, func(p string) bool {
		return slices.ContainsFunc(params, func(q string) bool { return strings.Contains(p[2:], q[:1]+".") })
	})
}

// TestRandomMadeSigs compares MadeSig with replacements in texts, for functors that need not check.
func TestRandomMadeSigs(t *testing.T) {
	random := rand.New(rand.NewSource(33))
	codes := map[int]int{}
	for range 4000 {
		m := newProgramMaker(random)
		m.known.scope = randomScopeText(random, 3)
		if m.known.scope == "" {
			continue
		}
		mods := strings.Fields(m.known.scope)
		// The functor may have the name of a module, too, and so may its parameters.
		f, _ := splitUnit(m.functorLine())
		args := slices.Clone(m.fits[m.names[0]])
		codes[checkMade(t, m.known.scope, f, args)]++
		for range 4 {
			_, g := changedUnit(random, "", f)
			if !isUnitText(g.String()) {
				continue
			}
			some := slices.Clone(args)
			if random.Intn(2) == 0 {
				some[random.Intn(len(some))] = mods[random.Intn(len(mods))][:1]
			}
			codes[checkMade(t, m.known.scope, g, some)]++
		}
	}
	checkCodes(t, codes, impl.ProgOk, impl.ProgArgs)
}

// TestProgramsAreCheckedUnitByUnit checks promise 8: what a program returns follows from its declarations one
// by one, each in the scope of those before it.
func TestProgramsAreCheckedUnitByUnit(t *testing.T) {
	random := rand.New(rand.NewSource(34))
	codes := map[int]int{}
	for range 4000 {
		text := randomProgram(random, 8)
		if changed := changedProgram(random, text); random.Intn(2) == 0 && isProgramText(changed) {
			text = changed
		}
		p := parsedProgram(t, text)
		code, at := impl.CheckProgram(p)
		codes[code]++
		for i, d := range p.Decls {
			part := impl.Program{Decls: p.Decls[:i], Main: number(1)}
			scope, partCode := impl.ProgramScope(part)
			if partCode != impl.ProgOk {
				if i <= at || partCode != code {
					t.Fatalf("ProgramScope of the first %d declarations of %q = %d, but CheckProgram = %d, %d", i, text, partCode, code, at)
				}
				break
			}
			if want := checkDecl(p.Decls[:i], d, scope); (want == impl.ProgOk) != (i != at || code == impl.ProgMain) || i == at && code != impl.ProgMain && want != code {
				t.Fatalf("declaration %d of %q gives %d, but CheckProgram = %d, %d", i, text, want, code, at)
			}
		}
		scope, scopeCode := impl.ProgramScope(p)
		typ, inferred := impl.InferExpr(scope, p.Main)
		if got, _ := impl.MainType(p); scopeCode == impl.ProgOk && (!equalTypes(got, typ) || (inferred == impl.CheckOk) != (code == impl.ProgOk)) {
			t.Fatalf("MainType(%q) = %v, InferExpr is %v, %d", text, got, typ, inferred)
		}
	}
	checkCodes(t, codes, impl.ProgOk, impl.ProgUnit, impl.ProgArgs, impl.ProgMain)
}

// checkDecl checks one declaration by functions for units alone.
func checkDecl(before []impl.Decl, d impl.Decl, scope []impl.Import) int {
	if d.Made == "" {
		if impl.CheckUnit(scope, d.Unit) != impl.UnitOk {
			return impl.ProgUnit
		}
		return impl.ProgOk
	}
	for _, other := range before {
		if other.Unit.Name == d.Functor && len(other.Unit.Params) > 0 {
			_, code := impl.MadeSig(scope, other.Unit, d.Args)
			return code
		}
	}
	return impl.ProgFunctor
}

// otherBody makes the text of a structure that offers a signature in the scope of c, if it finds one.
func otherBody(random *rand.Rand, c textChecker, face string) string {
	c.local = map[string]string{}
	m := newExprMaker(random, c)
	var parts []string
	types, vals := "", ""
	for _, part := range splitSig(face) {
		n, sep, typ := splitItem(part)
		if sep == "" {
			typ = m.spell(m.pick(m.types))
		}
		resolved, code := c.resolveHere(typ)
		if code != impl.CheckOk {
			return ""
		}
		if sep != ":" {
			c.local[n], m.names[resolved], m.types = resolved, append(m.names[resolved], n), append(m.types, resolved)
			parts, types = append(parts, n+"="+typ), types+n
			continue
		}
		made := m.expr(resolved, nil, 4)
		if !isClosedOver(made, types, vals) {
			return ""
		}
		m.vals[resolved] = append(m.vals[resolved], n)
		parts, vals = append(parts, n+":="+made), vals+n
	}
	return "{" + strings.Join(parts, ";") + "}"
}

// otherUnit returns a unit that differs from the one in a declaration by its body only, and checks behind others, if
// it finds one.
func otherUnit(random *rand.Rand, before []impl.Decl, d impl.Decl) (impl.Unit, bool) {
	u, ok := splitUnit(impl.FormatUnit(d.Unit))
	if !ok {
		return impl.Unit{}, false
	}
	scope, _ := impl.ProgramScope(impl.Program{Decls: before, Main: number(1)})
	body, ok := impl.ParseStruct(otherBody(random, newTextChecker(u.longer(scopeText(scope))), u.face))
	other := impl.Unit{Name: d.Unit.Name, Params: d.Unit.Params, Body: body, Face: d.Unit.Face}
	return other, ok && !impl.StructSame(body, d.Unit.Body) && impl.CheckUnit(scope, other) == impl.UnitOk
}

// TestOnlySignaturesMatter checks promise 8: programs in which units have other bodies that offer as much
// have the same results.
func TestOnlySignaturesMatter(t *testing.T) {
	random := rand.New(rand.NewSource(35))
	codes, replaced, functors := map[int]int{}, 0, 0
	for range 2000 {
		text := randomProgram(random, 6)
		p, r := parsedProgram(t, text), checkTexts(text)
		for i, d := range p.Decls {
			if i >= r.at && r.code != impl.ProgMain {
				break
			}
			changed, ok := otherUnit(random, p.Decls[:i], d)
			if !ok {
				continue
			}
			p.Decls[i].Unit = changed
			if replaced++; len(changed.Params) > 0 {
				functors++
			}
		}
		codes[r.code]++
		checkResults(t, p, r)
	}
	checkCodes(t, codes, impl.ProgOk)
	if replaced < 1500 || functors < 300 {
		t.Errorf("%d bodies have been replaced, %d of functors", replaced, functors)
	}
}

// TestMadeModulesAreLikeUnits checks that a module that a functor makes can be written as a unit, with the
// body and the signature of the functor, unless that has a type that is too large.
func TestMadeModulesAreLikeUnits(t *testing.T) {
	random := rand.New(rand.NewSource(36))
	unfolded, tooLargeUnits := 0, 0
	for range 3000 {
		text := randomProgram(random, 8)
		want := checkTexts(text)
		lines, known := programLines(text), checkedTexts{functors: map[string]unitTexts{}}
		for i, line := range lines[:want.at] {
			if made, functor, args, ok := splitMade(line); ok {
				f := known.functors[functor]
				u := unitTexts{made, nil, renamedText(f.face, f.params, args), renamedText(f.body, f.params, args)}
				if checkUnitTexts(known.scope, u) == impl.UnitOk {
					lines[i] = u.String()
					unfolded++
				} else if tooLargeUnits++; !largeUnit(t, known.scope, u) {
					t.Fatalf("%s is not accepted in the scope %s, but %s is", u, known.scope, line)
				}
			}
			if code := known.declare(line); code != impl.ProgOk {
				t.Fatalf("%q fails at %d", text, i)
			}
		}
		checkResults(t, parsedProgram(t, programText(lines...)), want)
	}
	if unfolded < 1000 {
		t.Errorf("%d modules have been written as units, %d are too large", unfolded, tooLargeUnits)
	}
}

// TestMadeModulesHaveTypesOfTheirOwn makes modules twice, and compares their types.
func TestMadeModulesHaveTypesOfTheirOwn(t *testing.T) {
	random := rand.New(rand.NewSource(37))
	different, same := 0, 0
	for range 3000 {
		lines := programLines(randomProgram(random, 6))
		at := slices.IndexFunc(lines, isMadeText)
		if at < 0 {
			continue
		}
		lines = append(slices.Clone(lines[:at+1]), "Z"+lines[at][1:], "main 1")
		text := programText(lines...)
		if r := checkProgram(t, text); r.code != impl.ProgOk {
			continue
		}
		scope, _ := impl.ProgramScope(parsedProgram(t, text))
		first, second := scope[len(scope)-2], scope[len(scope)-1]
		if first.Name != lines[at][:1] || second.Name != "Z" || !equalSigs(first.Sig, second.Sig) {
			t.Fatalf("ProgramScope(%q) = %s", text, scopeText(scope))
		}
		for _, item := range first.Sig {
			if item.Kind == impl.SigVal {
				continue
			}
			a, _ := impl.ResolveType(scope, name(first.Name, item.Name))
			b, _ := impl.ResolveType(scope, name("Z", item.Name))
			if item.Kind == impl.SigAbstract {
				different++
				if impl.TypeSame(a, b) || !equalTypes(a, name(first.Name, item.Name)) {
					t.Fatalf("%s.%s and Z.%s are %v and %v in %q", first.Name, item.Name, item.Name, a, b, text)
				}
			} else if impl.TypeSame(a, b) {
				same++
			}
		}
	}
	if different < 300 || same < 200 {
		t.Errorf("%d types are different, %d are the same", different, same)
	}
}
