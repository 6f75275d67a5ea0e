package tests

import (
	"math/rand"
	"regexp"
	"slices"
	"strings"
	"testing"

	"loop.example/modlink/impl"
)

func parsedUnit(t *testing.T, text string) impl.Unit {
	t.Helper()
	u, ok := impl.ParseUnit(text)
	if !ok {
		t.Fatalf("ParseUnit rejects %q", text)
	}
	return u
}

// equalUnits compares units without the help of the program.
func equalUnits(a, b impl.Unit) bool {
	return a.Name == b.Name && equalScopes(a.Params, b.Params) && equalStructs(a.Body, b.Body) && equalSigs(a.Face, b.Face)
}

func zeroUnit(u impl.Unit) bool { return equalUnits(u, impl.Unit{}) }

func copyUnit(u impl.Unit) impl.Unit {
	return impl.Unit{Name: u.Name, Params: copyScope(u.Params), Body: copyStruct(u.Body), Face: copySig(u.Face)}
}

// spoilUnit changes all memory that a unit reaches, including unused capacity.
func spoilUnit(u impl.Unit) {
	params := u.Params[:cap(u.Params)]
	for i := range params {
		spoilSig(params[i].Sig)
		params[i] = module("spoiled", nil)
	}
	spoilStruct(u.Body)
	spoilSig(u.Face)
}

// unitTexts are the texts of the parts of a unit. That of a parameter is like "P:{t}".
type unitTexts struct {
	name       string
	params     []string
	face, body string
}

func (u unitTexts) String() string {
	text := u.name
	for _, p := range u.params {
		text += "(" + p + ")"
	}
	return text + ":" + u.face + "=" + u.body
}

// longer returns the text of a scope with the parameters at its end.
func (u unitTexts) longer(scope string) string {
	return strings.Join(append(strings.Fields(scope), u.params...), " ")
}

var (
	unitPattern  = regexp.MustCompile(`^([A-HJ-Z])((?:\([A-HJ-Z]:\{[^{}]*\}\)){0,3}):(\{[^{}]*\})=(\{[^{}]*\})$`)
	paramPattern = regexp.MustCompile(`[A-Z]:\{[^{}]*\}`)
)

// splitUnit returns the texts of the parts of a text that looks like that of a unit.
func splitUnit(text string) (unitTexts, bool) {
	match := unitPattern.FindStringSubmatch(text)
	if match == nil {
		return unitTexts{}, false
	}
	return unitTexts{match[1], paramPattern.FindAllString(match[2], -1), match[3], match[4]}, true
}

// isUnitText decides what ParseUnit should accept by splitting the text.
func isUnitText(text string) bool {
	u, ok := splitUnit(text)
	if !ok {
		return false
	}
	names := u.name
	for _, p := range u.params {
		if strings.Contains(names, p[:1]) || !isSigText(p[2:]) {
			return false
		}
		names += p[:1]
	}
	return isSigText(u.face) && isStructText(u.body)
}

// checkUnitTexts decides by replacements in texts what CheckUnit should return.
func checkUnitTexts(scope string, u unitTexts) int {
	if !isScopeText(scope) || !isUnitText(u.String()) {
		return impl.UnitInvalid
	}
	longer := u.longer(scope)
	if !isScopeText(longer) || strings.Contains(" "+scope, " "+u.name+":") {
		return impl.UnitParams
	}
	c := newTextChecker(longer)
	body, _ := impl.ParseStruct(u.body)
	principal, code := c.principal(body)
	if code != impl.CheckOk {
		return impl.UnitBody
	}
	for _, n := range typePathPattern.FindAllString(u.face, -1) {
		if c.types[n] == "" {
			return impl.UnitFace
		}
	}
	switch {
	case !smallTypes(normalText(u.face)):
		return impl.UnitFace
	case matchInTexts(longer, principal, u.face) != impl.MatchOk:
		return impl.UnitMatch
	}
	return impl.UnitOk
}

// usesInText returns the modules in the text of a valid unit that are no parameters.
func usesInText(u unitTexts) []string {
	var uses []string
	for _, n := range typePathPattern.FindAllString(u.String(), -1) {
		if !slices.Contains(uses, n[:1]) && !slices.ContainsFunc(u.params, func(p string) bool { return p[:1] == n[:1] }) {
			uses = append(uses, n[:1])
		}
	}
	slices.Sort(uses)
	return uses
}

// hiddenInText returns the values in the text of a valid unit that its signature does not have.
func hiddenInText(u unitTexts) []string {
	var hidden []string
	offered := offeredTexts(u.face)
	for _, part := range splitStruct(u.body) {
		if part[1] == ':' && offered[part[:1]+":"] == "" {
			hidden = append(hidden, part[:1])
		}
	}
	return hidden
}

// checkUnit checks all functions for the texts of a valid unit, and returns the code of CheckUnit.
func checkUnit(t *testing.T, scope string, u unitTexts) int {
	t.Helper()
	text, list := u.String(), parsedScope(t, scope)
	v := parsedUnit(t, text)
	code := impl.CheckUnit(list, v)
	if want := checkUnitTexts(scope, u); code != want {
		t.Fatalf("CheckUnit(%s, %s) = %d, checkUnitTexts is %d", scope, text, code, want)
	}
	if got := impl.UnitUses(v); !slices.Equal(got, usesInText(u)) {
		t.Fatalf("UnitUses(%s) = %v", text, got)
	}
	if got := impl.HiddenVals(v); !slices.Equal(got, hiddenInText(u)) {
		t.Fatalf("HiddenVals(%s) = %v", text, got)
	}
	if !impl.UnitValid(v) || !impl.UnitSame(v, v) || impl.FormatUnit(v) != text {
		t.Fatalf("FormatUnit(%s) = %s", text, impl.FormatUnit(v))
	}
	open := copyUnit(v)
	open.Face = nil
	checkSealed(t, list, open, v.Face, code)
	return code
}

// checkSealed checks SealUnit for a unit and another signature, with which CheckUnit returns this code.
func checkSealed(t *testing.T, scope []impl.Import, u impl.Unit, face []impl.SigItem, code int) {
	t.Helper()
	want := impl.Unit{}
	if code == impl.UnitOk {
		want = impl.Unit{Name: u.Name, Params: u.Params, Body: u.Body, Face: face}
	}
	if got, k := impl.SealUnit(scope, u, face); k != code || !equalUnits(got, want) {
		t.Errorf("SealUnit(%.80s, %.80s, %.80s) = %.80s, %d, want %d", scopeText(scope), impl.FormatUnit(u), impl.FormatSig(face), impl.FormatUnit(got), k, code)
	}
}

// randomUnit makes the texts of a scope and of a unit whose body mostly checks and offers its signature.
func randomUnit(random *rand.Rand, depth int) (string, unitTexts) {
	parts := strings.Fields(randomScopeText(random, depth))
	split := len(parts) - random.Intn(min(3, len(parts))+1)
	c := newTextChecker(strings.Join(parts, " "))
	u := unitTexts{"Z", parts[split:], "{}", randomTypedStruct(random, c)}
	body, _ := impl.ParseStruct(u.body)
	if principal, code := c.principal(body); code == impl.CheckOk {
		u.face = randomFace(random, c, principal)
	}
	return strings.Join(parts[:split], " "), u
}

// randomFace makes a signature that a principal one matches in this scope. It has its types, and those of
// modules, in place of what they mean.
func randomFace(random *rand.Rand, c textChecker, principal string) string {
	m := newExprMaker(random, c)
	var parts []string
	own := map[string]string{}
	for _, part := range splitSig(principal) {
		n, sep, typ := splitItem(part)
		text := typ
		for _, local := range mapKeys(own) {
			text = replaceSome(random, text, own[local], local)
		}
		if sep == "=" {
			own[n] = typ
		}
		parts = append(parts, n+sep+m.spell(text))
	}
	return weakerText(random, "{"+strings.Join(parts, ";")+"}")
}

// replaceSome replaces a part of a text in some of its places.
func replaceSome(random *rand.Rand, text, from, to string) string {
	pieces := strings.Split(text, from)
	result := pieces[0]
	for _, piece := range pieces[1:] {
		between := from
		if random.Intn(3) > 0 {
			between = to
		}
		result += between + piece
	}
	return result
}

// changedUnit changes the texts of a scope and of a unit. One of them may not be valid any more.
func changedUnit(random *rand.Rand, scope string, u unitTexts) (string, unitTexts) {
	parts := strings.Fields(scope)
	u.params = slices.Clone(u.params)
	letter := func() string { return string("ABCDEFGHZ"[random.Intn(9)]) }
	switch kind := random.Intn(8); {
	case kind == 0 && len(parts) > 0:
		i := random.Intn(len(parts))
		parts = slices.Delete(parts, i, i+1)
	case kind == 1 && len(u.params) > 0:
		i := random.Intn(len(u.params))
		u.params = slices.Delete(u.params, i, i+1)
	case kind == 2 && len(u.params) > 0:
		i := random.Intn(len(u.params))
		u.params[i] = letter() + u.params[i][1:]
	case kind == 3:
		u.name = letter()
	case kind == 4:
		u.body = changedBodyText(random, u.longer(scope), u.body)
	default:
		u.face = changedText(random, u.face)
	}
	return strings.Join(parts, " "), u
}

func changedBodyText(random *rand.Rand, scope, body string) string {
	s, _ := impl.ParseStruct(body)
	return impl.FormatStruct(changedStruct(random, s, newTextChecker(scope)))
}
