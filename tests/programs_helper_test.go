package tests

import (
	"math/rand"
	"regexp"
	"slices"
	"strings"
	"testing"

	"loop.example/modlink/impl"
)

func unitDecl(u impl.Unit) impl.Decl { return impl.Decl{Unit: u} }

func madeDecl(made, functor string, args ...string) impl.Decl {
	return impl.Decl{Made: made, Functor: functor, Args: args}
}

func program(main impl.Expr, decls ...impl.Decl) impl.Program {
	return impl.Program{Decls: decls, Main: main}
}

func parsedProgram(t *testing.T, text string) impl.Program {
	t.Helper()
	p, ok := impl.ParseProgram(text)
	if !ok {
		t.Fatalf("ParseProgram rejects %q", text)
	}
	return p
}

// programText returns the text that ends each line with a newline.
func programText(lines ...string) string { return strings.Join(lines, "\n") + "\n" }

// programLines returns the lines of the text of a valid program, of which the last one is that of the expression.
func programLines(text string) []string { return strings.Split(strings.TrimSuffix(text, "\n"), "\n") }

// equalPrograms compares programs without the help of the program.
func equalPrograms(a, b impl.Program) bool {
	return equalExprs(a.Main, b.Main) && slices.EqualFunc(a.Decls, b.Decls, func(x, y impl.Decl) bool {
		return equalUnits(x.Unit, y.Unit) && x.Made == y.Made && x.Functor == y.Functor && slices.Equal(x.Args, y.Args)
	})
}

func zeroProgram(p impl.Program) bool { return equalPrograms(p, impl.Program{}) }

func copyProgram(p impl.Program) impl.Program {
	c := impl.Program{Main: copyExpr(p.Main)}
	for _, d := range p.Decls {
		c.Decls = append(c.Decls, impl.Decl{Unit: copyUnit(d.Unit), Made: d.Made, Functor: d.Functor, Args: slices.Clone(d.Args)})
	}
	return c
}

// spoilProgram changes all memory that a program reaches, including unused capacity.
func spoilProgram(p impl.Program) {
	decls := p.Decls[:cap(p.Decls)]
	for i := range decls {
		spoilUnit(decls[i].Unit)
		spoilNames(decls[i].Args)
		decls[i] = madeDecl("spoiled", "spoiled")
	}
	spoilExpr(p.Main)
}

func spoilNames(names []string) {
	names = names[:cap(names)]
	for i := range names {
		names[i] = "spoiled"
	}
}

var madePattern = regexp.MustCompile(`^([A-HJ-Z])=([A-HJ-Z])((?:\([A-HJ-Z]\)){1,3})$`)

// splitMade returns the names in a line for a module that a functor makes.
func splitMade(line string) (made, functor string, args []string, ok bool) {
	match := madePattern.FindStringSubmatch(line)
	if match == nil {
		return "", "", nil, false
	}
	return match[1], match[2], strings.Split(strings.Trim(match[3], "()"), ")("), true
}

func isMadeText(line string) bool { return madePattern.MatchString(line) }

// isProgramText decides what ParseProgram should accept by splitting the text.
func isProgramText(text string) bool {
	lines := strings.Split(text, "\n")
	last := len(lines) - 1
	if last < 1 || last > 9 || lines[last] != "" {
		return false
	}
	main, ok := strings.CutPrefix(lines[last-1], "main ")
	if !ok || !isExprText(main) {
		return false
	}
	names := ""
	for _, line := range lines[:last-1] {
		if !isMadeText(line) && !isUnitText(line) || strings.Contains(names, line[:1]) {
			return false
		}
		names += line[:1]
	}
	return true
}

// renamedText replaces the names of parameters in the text of a signature, all at once.
func renamedText(sig string, params, args []string) string {
	return typePathPattern.ReplaceAllStringFunc(sig, func(n string) string {
		for i, p := range params {
			if p[:1] == n[:1] {
				return args[i] + n[1:]
			}
		}
		return n
	})
}

// strengthenedText makes the abstract types in the text of a signature those of a module.
func strengthenedText(sig, mod string) string {
	parts := splitSig(sig)
	for i, part := range parts {
		if _, sep, _ := splitItem(part); sep == "" {
			parts[i] = part + "=" + mod + "." + part
		}
	}
	return "{" + strings.Join(parts, ";") + "}"
}

// sigInScope returns the text of the signature of a module in the text of a scope.
func sigInScope(scope, mod string) (string, bool) {
	for _, one := range strings.Fields(scope) {
		if n, sig, _ := strings.Cut(one, ":"); n == mod {
			return sig, true
		}
	}
	return "", false
}

// makeInTexts decides by replacements in texts what MadeSig should return.
func makeInTexts(scope string, f unitTexts, args []string) (string, int) {
	if !isScopeText(scope) || !isUnitText(f.String()) {
		return "", impl.ProgInvalid
	}
	if len(args) == 0 || len(args) != len(f.params) {
		return "", impl.ProgArgs
	}
	for i, p := range f.params {
		sig, ok := sigInScope(scope, args[i])
		if !ok || matchInTexts(scope, strengthenedText(sig, args[i]), renamedText(p[2:], f.params, args)) != impl.MatchOk {
			return "", impl.ProgArgs
		}
	}
	return renamedText(f.face, f.params, args), impl.ProgOk
}

// checkedTexts is what is known by replacements in texts about a program: the results of CheckProgram, the
// modules that have been declared until it fails, and the type of the expression.
type checkedTexts struct {
	code, at  int
	scope     string
	functors  map[string]unitTexts
	main, typ string
}

// checkTexts decides by replacements in texts what the functions should return for the text of a valid program.
func checkTexts(text string) checkedTexts {
	lines := programLines(text)
	r := checkedTexts{at: len(lines) - 1, functors: map[string]unitTexts{}, main: strings.TrimPrefix(lines[len(lines)-1], "main ")}
	for i, line := range lines[:r.at] {
		if r.code = r.declare(line); r.code != impl.ProgOk {
			r.at = i
			return r
		}
	}
	e, _ := impl.ParseExpr(r.main)
	typ, code := newTextChecker(r.scope).inferClosed(e)
	if r.typ = typ; code != impl.CheckOk {
		r.code = impl.ProgMain
	}
	return r
}

func (r *checkedTexts) declare(line string) int {
	added := ""
	if made, functor, args, ok := splitMade(line); ok {
		f, ok := r.functors[functor]
		if !ok {
			return impl.ProgFunctor
		}
		sig, code := makeInTexts(r.scope, f, args)
		if code != impl.ProgOk {
			return code
		}
		added = made + ":" + sig
	} else {
		u, _ := splitUnit(line)
		if checkUnitTexts(r.scope, u) != impl.UnitOk {
			return impl.ProgUnit
		}
		if len(u.params) > 0 {
			r.functors[u.name] = u
			return impl.ProgOk
		}
		added = u.name + ":" + u.face
	}
	r.scope = strings.TrimPrefix(r.scope+" "+added, " ")
	if !isScopeText(r.scope) {
		return impl.ProgScope
	}
	return impl.ProgOk
}

// checkProgram compares all functions, for the text of a valid program, with replacements in texts.
func checkProgram(t *testing.T, text string) checkedTexts {
	t.Helper()
	p, want := parsedProgram(t, text), checkTexts(text)
	checkResults(t, p, want)
	if want.code == impl.ProgOk {
		checkLinked(t, text)
	} else {
		checkNotLinked(t, p, impl.LinkCheck)
	}
	if !impl.ProgramValid(p) || !impl.ProgramSame(p, copyProgram(p)) || impl.FormatProgram(p) != text {
		t.Fatalf("FormatProgram(%q) = %q", text, impl.FormatProgram(p))
	}
	return want
}

// checkResults checks the results of checking a valid program.
func checkResults(t *testing.T, p impl.Program, want checkedTexts) {
	t.Helper()
	if code, at := impl.CheckProgram(p); code != want.code || at != want.at {
		t.Fatalf("CheckProgram(%q) = %d, %d, want %d, %d", impl.FormatProgram(p), code, at, want.code, want.at)
	}
	typ, code := impl.MainType(p)
	if code != want.code || impl.FormatType(typ) != want.typ || want.typ == "" && !zeroType(typ) {
		t.Fatalf("MainType(%q) = %s, %d, want %s, %d", impl.FormatProgram(p), impl.FormatType(typ), code, want.typ, want.code)
	}
	scope, code := impl.ProgramScope(p)
	wantScope, wantCode := want.scope, want.code
	if wantCode == impl.ProgMain {
		wantCode = impl.ProgOk
	}
	if wantCode != impl.ProgOk {
		wantScope = ""
	}
	if code != wantCode || scopeText(scope) != wantScope {
		t.Fatalf("ProgramScope(%q) = %s, %d, want %s, %d", impl.FormatProgram(p), scopeText(scope), code, wantScope, wantCode)
	}
}

// checkMade compares MadeSig with replacements in texts, and returns the code.
func checkMade(t *testing.T, scope string, f unitTexts, args []string) int {
	t.Helper()
	want, wanted := makeInTexts(scope, f, args)
	sig, code := impl.MadeSig(parsedScope(t, scope), parsedUnit(t, f.String()), args)
	if code != wanted || code == impl.ProgOk && impl.FormatSig(sig) != want || code != impl.ProgOk && len(sig) != 0 {
		t.Fatalf("MadeSig(%s, %s, %v) = %s, %d, want %s, %d", scope, f, args, impl.FormatSig(sig), code, want, wanted)
	}
	return code
}

// programMaker makes the text of a program line by line. Most of its lines check.
type programMaker struct {
	random *rand.Rand
	names  []string // of which none is defined yet
	depth  int      // of the types in signatures
	lines  []string
	known  checkedTexts
	fits   map[string][]string // arguments that mostly fit a functor
}

func newProgramMaker(random *rand.Rand) *programMaker {
	names := strings.Split("ABCDEFGHJKPQ", "")
	random.Shuffle(len(names), func(i, j int) { names[i], names[j] = names[j], names[i] })
	return &programMaker{random, names, 2 + random.Intn(2), nil, checkedTexts{functors: map[string]unitTexts{}}, map[string][]string{}}
}

// randomProgram makes the text of a program with at most so many declarations.
func randomProgram(random *rand.Rand, most int) string {
	m := newProgramMaker(random)
	for range random.Intn(most + 1) {
		line := m.line()
		if m.known.declare(line) == impl.ProgOk || random.Intn(6) == 0 {
			m.lines = append(m.lines, line)
			m.names = m.names[1:]
		}
	}
	return programText(append(m.lines, "main "+m.mainText())...)
}

// line makes a declaration that defines the first name.
func (m *programMaker) line() string {
	switch kind := m.random.Intn(5); {
	case kind < 2 && len(m.fits) > 0:
		return m.madeLine()
	case kind < 4 && m.known.scope != "":
		return m.functorLine()
	}
	return m.unitLine(nil)
}

func (m *programMaker) unitLine(params []string) string {
	u := unitTexts{m.names[0], params, "{}", "{}"}
	longer := u.longer(m.known.scope)
	if !isScopeText(longer) {
		return u.String()
	}
	c := newTextChecker(longer)
	u.body = randomTypedStruct(m.random, c)
	body, _ := impl.ParseStruct(u.body)
	if principal, code := c.principal(body); code == impl.CheckOk {
		u.face = hiddenTypes(m.random, randomFace(m.random, c, principal))
	}
	return u.String()
}

// hiddenTypes makes some of the types in the text of a signature abstract.
func hiddenTypes(random *rand.Rand, sig string) string {
	parts := splitSig(sig)
	for i, part := range parts {
		if n, sep, _ := splitItem(part); sep == "=" && random.Intn(2) == 0 {
			parts[i] = n
		}
	}
	return "{" + strings.Join(parts, ";") + "}"
}

// functorLine makes a functor whose parameters are parts of the modules that there are. Parameters may have
// the names of later modules, and mention each other.
func (m *programMaker) functorLine() string {
	mods := strings.Fields(m.known.scope)
	var params, args []string
	for i := range 1 + m.random.Intn(3) {
		n, sig, _ := strings.Cut(m.pickModule(mods, args), ":")
		if m.random.Intn(3) == 0 || slices.Contains(args, n) {
			sig = strengthenedText(sig, n)
		}
		if m.random.Intn(2) == 0 {
			sig = hiddenTypes(m.random, weakerText(m.random, sig))
		}
		for j, p := range params {
			changed := replaceSome(m.random, sig, args[j]+".", p[:1]+".")
			if isScopeText(m.known.scope + " " + strings.Join(params, " ") + " Z:" + changed) {
				sig = changed
			}
		}
		params, args = append(params, m.names[1+i]+":"+sig), append(args, n)
	}
	m.fits[m.names[0]] = args
	return m.unitLine(params)
}

// pickModule returns one of the modules, mostly one that is or mentions one of args, if there is one.
func (m *programMaker) pickModule(mods, args []string) string {
	some := slices.DeleteFunc(slices.Clone(mods), func(one string) bool {
		return !slices.ContainsFunc(args, func(arg string) bool { return one[:1] == arg || strings.Contains(one, arg+".") })
	})
	if len(some) == 0 || m.random.Intn(4) == 0 {
		some = mods
	}
	return some[m.random.Intn(len(some))]
}

func (m *programMaker) madeLine() string {
	var functors []string
	for n := range m.fits {
		functors = append(functors, n)
	}
	slices.Sort(functors)
	functor := functors[m.random.Intn(len(functors))]
	args := slices.Clone(m.fits[functor])
	if mods := strings.Fields(m.known.scope); m.random.Intn(3) == 0 && len(mods) > 0 {
		args[m.random.Intn(len(args))] = mods[m.random.Intn(len(mods))][:1]
	}
	return m.names[0] + "=" + functor + "(" + strings.Join(args, ")(") + ")"
}

// mainText makes an expression that checks in the scope.
func (m *programMaker) mainText() string {
	em := newExprMaker(m.random, newTextChecker(m.known.scope))
	for range 5 {
		if text := em.expr(em.pick(em.types), nil, 1+m.random.Intn(4)); text != "" && isExprText(text) {
			return text
		}
	}
	return "1"
}

// changedProgram changes the text of a program. The result may not be that of a program any more.
func changedProgram(random *rand.Rand, text string) string {
	lines := programLines(text)
	last := len(lines) - 1
	if last == 0 || random.Intn(5) == 0 {
		e, _ := impl.ParseExpr(strings.TrimPrefix(lines[last], "main "))
		changeLeaf(random, &e, newTextChecker(checkTexts(text).scope))
		lines[last] = "main " + impl.FormatExpr(e)
		return programText(lines...)
	}
	i, j := random.Intn(last), random.Intn(last)
	switch kind := random.Intn(6); {
	case kind == 0:
		lines[i], lines[j] = lines[j], lines[i]
	case kind == 1:
		lines = slices.Delete(lines, i, i+1)
	case kind == 2:
		lines = slices.Insert(lines, i, lines[j])
	case isMadeText(lines[i]):
		lines[i] = changedMade(random, lines[i])
	default:
		u, _ := splitUnit(lines[i])
		_, u = changedUnit(random, "", u)
		lines[i] = u.String()
	}
	return programText(lines...)
}

// changedMade changes a name in a line for a module that a functor makes, or the number of its arguments.
func changedMade(random *rand.Rand, line string) string {
	letter := string("ABCDEFGHJKPQ"[random.Intn(12)])
	switch random.Intn(5) {
	case 0:
		return line + "(" + letter + ")"
	case 1:
		return line[:len(line)-3]
	}
	places := []int{0, 2}
	for at := 4; at < len(line); at += 3 {
		places = append(places, at)
	}
	at := places[random.Intn(len(places))]
	return line[:at] + letter + line[at+1:]
}
