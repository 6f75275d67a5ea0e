package tests

import (
	"math/rand"
	"slices"
	"strings"
	"testing"

	"loop.example/modlink/impl"
)

// someText makes the text of a program that mostly checks.
func someText(random *rand.Rand) string {
	text := linkableProgram(random)
	if random.Intn(8) == 0 {
		if changed := changedProgram(random, text); isProgramText(changed) {
			return changed
		}
	}
	return text
}

// someName returns a name that one of the lines of a program defines, or mostly no other one.
func someName(random *rand.Rand, text string) string {
	lines := programLines(text)
	if len(lines) == 1 || random.Intn(10) == 0 {
		return string("ABCDEFGHJKPQZ"[random.Intn(13)])
	}
	return lines[random.Intn(len(lines)-1)][:1]
}

// newUnit makes the texts of a unit that mostly can replace the one that defines a name in the text of a program. If
// there is none, it is any unit with this name.
func newUnit(random *rand.Rand, text, name string) unitTexts {
	lines := programLines(text)
	at := slices.IndexFunc(lines[:len(lines)-1], func(line string) bool { return line[:1] == name })
	u, ok := splitUnit(lines[max(at, 0)])
	if at < 0 || !ok {
		return unitTexts{name, nil, "{}", "{x:=1}"}
	}
	known := checkTexts(programText(append(slices.Clone(lines[:at]), "main 1")...))
	if random.Intn(6) == 0 || known.code != impl.ProgOk {
		return changedSameUnit(random, text, at, u)
	}
	scope := u.longer(known.scope)
	switch body := otherBody(random, newTextChecker(scope), u.face); {
	case random.Intn(5) == 0:
		u.body = randomTypedStruct(random, newTextChecker(scope))
	case isStructText(body):
		u.body = withMore(random, scope, body)
	}
	if random.Intn(8) == 0 {
		u.body = changedBodyText(random, scope, u.body)
	}
	u.face = otherFace(random, scope, u)
	switch kind := random.Intn(10); {
	case kind == 0:
		u = changedSameUnit(random, text, at, u)
	case kind == 1 && len(u.params) > 0:
		u.params = u.params[:len(u.params)-1]
	case kind == 2 && len(u.params) < 3:
		u.params = append(slices.Clone(u.params), string("PQRSTVW"[random.Intn(7)])+":{t;y:t}")
	case kind == 3 && len(u.params) > 0:
		i := random.Intn(len(u.params))
		u.params = slices.Clone(u.params)
		u.params[i] = u.params[i][:2] + weakerText(random, u.params[i][2:])
	}
	return u
}

// withMore adds a definition of a value to the text of a structure, if there is room for it.
func withMore(random *rand.Rand, scope, body string) string {
	n := string("mnopqr"[random.Intn(6)])
	e := newExprMaker(random, newTextChecker(scope)).expr("I", nil, 3)
	longer := strings.Replace("{"+n+":="+e+";"+body[1:], ";}", "}", 1)
	if e == "" || !isStructText(longer) || random.Intn(3) == 0 {
		return body
	}
	return longer
}

// otherFace makes a signature that the body of a unit mostly offers, and that may ask for more or less than before.
func otherFace(random *rand.Rand, scope string, u unitTexts) string {
	body, _ := impl.ParseStruct(u.body)
	c := newTextChecker(scope)
	principal, code := c.principal(body)
	if code != impl.CheckOk || random.Intn(3) == 0 {
		return u.face
	}
	if face := hiddenTypes(random, randomFace(random, c, principal)); isSigText(face) {
		return face
	}
	return u.face
}

// TestRandomReplacements compares all functions with what follows from the texts.
func TestRandomReplacements(t *testing.T) {
	random := rand.New(rand.NewSource(61))
	codes, upgrades, alone, functors := map[int]int{}, map[int]int{}, map[string]int{}, 0
	for range 700 {
		text := someText(random)
		for range 4 {
			name := someName(random, text)
			checkScopeBefore(t, text, name)
			u := newUnit(random, text, name)
			if !isUnitText(u.String()) {
				continue
			}
			_, code := checkReplaceBody(t, text, name, u.body)
			codes[code]++
			now, upgraded := checkUpgrade(t, text, u.String())
			upgrades[upgraded]++
			if upgraded == impl.UpgradeOk && strings.Contains(now, "\n"+name+"(") {
				functors++
			}
			if scope, _, found := beforeTexts(text, name); found == impl.UpgradeOk {
				accepted := checkUnitTexts(scope, u) == impl.UnitOk
				if accepted && code == impl.UpgradeUnit {
					alone["only itself"]++
				} else if !accepted && code == impl.UpgradeOk {
					alone["only with the old signature"]++
				}
			}
		}
	}
	checkCodes(t, codes, impl.UpgradeOk, impl.UpgradeCheck, impl.UpgradeName, impl.UpgradeUnit)
	checkCodes(t, upgrades, impl.UpgradeOk, impl.UpgradeCheck, impl.UpgradeName, impl.UpgradeUnit)
	if alone["only itself"] < 50 || alone["only with the old signature"] < 50 || functors < 100 {
		t.Errorf("units that are accepted: %v; %d functors are replaced", alone, functors)
	}
}

// TestRandomMains replaces expressions by those of other programs, and by others that mostly check.
func TestRandomMains(t *testing.T) {
	random := rand.New(rand.NewSource(62))
	codes, mended, broken := map[int]int{}, 0, 0
	for range 800 {
		text := someText(random)
		r := checkTexts(text)
		for range 3 {
			m := newProgramMaker(random)
			m.known = r
			main := m.mainText()
			if random.Intn(3) == 0 {
				e := parsedExpr(t, main)
				changeLeaf(random, &e, newTextChecker(r.scope))
				main = impl.FormatExpr(e)
			}
			if !isExprText(main) {
				continue
			}
			_, code := checkReplaceMain(t, text, main)
			codes[code]++
			// The result is not that of the old expression.
			bad := programText(append(slices.Clone(programLines(text)[:strings.Count(text, "\n")-1]), "main (1 1)")...)
			if _, again := checkReplaceMain(t, bad, main); again != code {
				t.Errorf("ReplaceMain of %q with %s = %d, but %d of %q", bad, main, again, code, text)
			}
			if code == impl.UpgradeOk {
				mended++
			} else if r.code == impl.ProgOk {
				broken++
			}
		}
	}
	checkCodes(t, codes, impl.UpgradeOk, impl.UpgradeCheck)
	if mended < 1000 || broken < 100 {
		t.Errorf("%d programs check with another expression, %d do not any more", mended, broken)
	}
}

// TestReplacedProgramsStillCheck checks promise 11 without texts: a body is accepted if and only if the program with this
// body in its place checks, which then has the same type; also after many replacements, one after the other.
func TestReplacedProgramsStillCheck(t *testing.T) {
	random := rand.New(rand.NewSource(63))
	replaced, refused, longest := 0, 0, 0
	for range 700 {
		first := parsedProgram(t, linkableProgram(random))
		p, length := first, 0
		want, _ := impl.MainType(first)
		for range 8 {
			text := impl.FormatProgram(p)
			name := someName(random, text)
			at := slices.IndexFunc(p.Decls, func(d impl.Decl) bool { return d.Unit.Name == name })
			body, ok := impl.ParseStruct(newUnit(random, text, name).body)
			if at < 0 || !ok {
				continue
			}
			by := copyProgram(p)
			by.Decls[at].Unit.Body = body
			checked, _ := impl.CheckProgram(by)
			q, code := impl.ReplaceBody(p, name, body)
			if (code == impl.UpgradeOk) != (checked == impl.ProgOk) || code != impl.UpgradeOk && code != impl.UpgradeUnit {
				t.Fatalf("ReplaceBody(%q, %s, %s) = %d, but CheckProgram = %d", text, name, impl.FormatStruct(body), code, checked)
			}
			if code != impl.UpgradeOk {
				refused++
				continue
			}
			typ, typeCode := impl.MainType(q)
			if typeCode != impl.ProgOk || !equalTypes(typ, want) || !equalPrograms(q, by) {
				t.Fatalf("MainType(%q) = %s, %d, want %s", impl.FormatProgram(q), impl.FormatType(typ), typeCode, impl.FormatType(want))
			}
			back, code := impl.ReplaceBody(q, name, p.Decls[at].Unit.Body)
			if code != impl.UpgradeOk || !equalPrograms(back, p) {
				t.Fatalf("ReplaceBody(%q, %s) with the old body = %q, %d", impl.FormatProgram(q), name, impl.FormatProgram(back), code)
			}
			p = q
			replaced++
			length++
		}
		checkStillTyped(t, first, p)
		longest = max(longest, length)
	}
	if replaced < 1500 || refused < 500 || longest < 6 {
		t.Errorf("%d bodies are replaced, %d are not, at most %d in one program", replaced, refused, longest)
	}
}

// checkStillTyped checks that a program in which bodies were replaced is linked to an expression of its type.
func checkStillTyped(t *testing.T, old, now impl.Program) {
	t.Helper()
	e, code := impl.LinkMain(now)
	if code != impl.LinkOk {
		return
	}
	typ, _ := impl.MainType(old)
	if want, ok := checkLinkedType(t, now, e, typ); ok {
		checkTypedRun(t, nil, e, want)
	}
}

// TestRandomPlainSame compares PlainSame with what follows from the texts, for programs with replaced or changed units.
func TestRandomPlainSame(t *testing.T) {
	random := rand.New(rand.NewSource(64))
	same, different, changed := 0, 0, 0
	for range 600 {
		old := linkableProgram(random)
		now := old
		for range 1 + random.Intn(3) {
			now = otherTypes(random, now)
		}
		first, second := checkAllPlainSame(t, old, now)
		same, different = same+len(first), different+len(second)
		before, behind := plainTexts(old), plainTexts(now)
		for _, name := range second {
			if len(before[name]) > 0 && len(before[name]) == len(behind[name]) {
				changed++
			}
		}
		checkAllPlainSame(t, old, linkableProgram(random))
	}
	if same < 500 || different < 700 || changed < 80 {
		t.Errorf("the types of %d modules are the same, those of %d are not, %d of which have become others", same, different, changed)
	}
}

// otherTypes replaces or changes one of the units of a program.
func otherTypes(random *rand.Rand, text string) string {
	if random.Intn(3) == 0 {
		if changed := changedKeepingNames(random, text); isProgramText(changed) {
			return changed
		}
		return text
	}
	name := someName(random, text)
	u := newUnit(random, text, name)
	if now, code := replacedText(text, name, u.body); isUnitText(u.String()) && code == impl.UpgradeOk {
		return now
	}
	return text
}

// TestScopesBeforeAreThoseOfPrograms checks ScopeBefore and ReplaceBody by programs that end before the name.
func TestScopesBeforeAreThoseOfPrograms(t *testing.T) {
	random := rand.New(rand.NewSource(65))
	functors, made := 0, 0
	for range 1500 {
		p := parsedProgram(t, linkableProgram(random))
		for i, d := range p.Decls {
			name := d.Unit.Name + d.Made
			want, _ := impl.ProgramScope(impl.Program{Decls: p.Decls[:i], Main: number(1)})
			scope, code := impl.ScopeBefore(p, name)
			if code != impl.UpgradeOk || !equalScopes(scope, want) {
				t.Fatalf("ScopeBefore(%q, %s) = %s, %d, want %s", impl.FormatProgram(p), name, scopeText(scope), code, scopeText(want))
			}
			q, code := impl.ReplaceBody(p, name, d.Unit.Body)
			r, upgraded := impl.UpgradeProgram(p, impl.Unit{Name: name, Params: d.Unit.Params, Body: d.Unit.Body, Face: d.Unit.Face})
			if d.Made != "" {
				if made++; code != impl.UpgradeName || upgraded != impl.UpgradeName {
					t.Fatalf("ReplaceBody(%q, %s) = %d, UpgradeProgram = %d", impl.FormatProgram(p), name, code, upgraded)
				}
				continue
			}
			if len(d.Unit.Params) > 0 {
				functors++
			}
			if code != impl.UpgradeOk || upgraded != impl.UpgradeOk || !equalPrograms(q, p) || !equalPrograms(r, p) || impl.CheckUnit(scope, d.Unit) != impl.UnitOk {
				t.Fatalf("ReplaceBody(%q, %s) with the same body = %d, UpgradeProgram = %d", impl.FormatProgram(p), name, code, upgraded)
			}
		}
	}
	if functors < 300 || made < 300 {
		t.Errorf("%d functors and %d modules that they make", functors, made)
	}
}
