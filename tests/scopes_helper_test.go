package tests

import (
	"maps"
	"math/rand"
	"regexp"
	"slices"
	"strings"
	"testing"

	"loop.example/modlink/impl"
)

func module(n string, sig []impl.SigItem) impl.Import { return impl.Import{Name: n, Sig: sig} }

func modules(list ...impl.Import) []impl.Import { return list }

// parsedScope reads a scope like "A:{t;z:t} B:{t=A.t}", which need not be valid.
func parsedScope(t *testing.T, text string) []impl.Import {
	t.Helper()
	var scope []impl.Import
	for _, one := range strings.Fields(text) {
		n, sig, _ := strings.Cut(one, ":")
		scope = append(scope, module(n, parsedSig(t, sig)))
	}
	return scope
}

// scopeText returns a text for messages, also of a scope that is not valid or contains itself.
func scopeText(scope []impl.Import) string {
	var parts []string
	for _, m := range scope {
		parts = append(parts, m.Name+":"+impl.FormatSig(m.Sig))
	}
	return strings.Join(parts, " ")
}

func copyScope(scope []impl.Import) []impl.Import {
	var c []impl.Import
	for _, m := range scope {
		c = append(c, module(m.Name, copySig(m.Sig)))
	}
	return c
}

// equalScopes compares scopes without the help of the program.
func equalScopes(a, b []impl.Import) bool {
	return slices.EqualFunc(a, b, func(x, y impl.Import) bool { return x.Name == y.Name && equalSigs(x.Sig, y.Sig) })
}

// isScopeText decides by splitting what ScopeValid should accept.
func isScopeText(text string) bool {
	known := map[string]bool{}
	parts := strings.Fields(text)
	for _, one := range parts {
		n, sig, _ := strings.Cut(one, ":")
		if !isSigText(sig) || !smallTypes(normalText(sig)) || known[n] || len(n) != 1 || n < "A" || n > "Z" || n == "I" {
			return false
		}
		for _, mentioned := range typePathPattern.FindAllString(sig, -1) {
			if !known[mentioned] {
				return false
			}
		}
		known[n] = true
		for key := range offeredTexts(sig) {
			if local, isType := strings.CutSuffix(key, "="); isType {
				known[n+"."+local] = true
			}
		}
	}
	return len(parts) <= 8
}

// typePathPattern finds the names in modules in the texts of types.
var typePathPattern = regexp.MustCompile(`[A-Z]\.[a-z]`)

// textChecker decides by replacements in texts what the types of a valid scope and of a structure are.
type textChecker struct {
	types map[string]string // what a name like "A.t" means, which may mention other modules
	vals  map[string]string // the type of a value like "A.x", which may mention other modules, or "x"
	local map[string]string // the resolved types of a structure
}

func newTextChecker(scope string) textChecker {
	c := textChecker{map[string]string{}, map[string]string{}, map[string]string{}}
	for _, one := range strings.Fields(scope) {
		n, sig, _ := strings.Cut(one, ":")
		own := map[string]string{}
		offered := offeredTexts(normalText(sig))
		for key := range offered {
			local := key[:1]
			own[local] = n + "." + local
		}
		for key, text := range offered {
			kind := c.vals
			if strings.HasSuffix(key, "=") {
				kind = c.types
			}
			kind[n+"."+key[:1]] = replaceTokens(text, own)
		}
	}
	return c
}

// resolve replaces the names of modules until nothing changes any more. As a text never gets fewer
// nodes, it need not go on with one that has too many.
func (c textChecker) resolve(text string) (string, int) {
	for _, n := range typePathPattern.FindAllString(text, -1) {
		if c.types[n] == "" {
			return "", impl.CheckName
		}
	}
	for {
		next := typePathPattern.ReplaceAllStringFunc(text, func(n string) string { return c.types[n] })
		if nodesOf(next) > 63 {
			return "", impl.CheckLarge
		}
		if next == text {
			break
		}
		text = next
	}
	if !smallType(text) {
		return "", impl.CheckLarge
	}
	return text, impl.CheckOk
}

func nodesOf(text string) int { return 2*strings.Count(text, ">") + 1 }

func (c textChecker) resolveHere(text string) (string, int) {
	text = replaceTokens(text, c.local)
	if !smallType(text) {
		return "", impl.CheckLarge
	}
	return c.resolve(text)
}

// resolveSig returns the text of the resolved signature.
func (c textChecker) resolveSig(sig string) (string, int) {
	var result []string
	for _, part := range splitSig(sig) {
		n, sep, typ := splitItem(part)
		if sep != "" {
			resolved, code := c.resolve(typ)
			if code != impl.CheckOk {
				return "", code
			}
			typ = resolved
		}
		result = append(result, n+sep+typ)
	}
	text := "{" + strings.Join(result, ";") + "}"
	if !smallTypes(normalText(text)) {
		return "", impl.CheckLarge
	}
	return text, impl.CheckOk
}

// splitFun returns the two sides of the text of a type of functions.
func splitFun(text string) (from, to string, ok bool) {
	depth := 0
	for i, c := range text {
		switch {
		case c == '(':
			depth++
		case c == ')':
			depth--
		case c == '>' && depth == 1:
			return text[1:i], text[i+1 : len(text)-1], true
		}
	}
	return "", "", false
}

// infer returns the text of the type of an expression without names or variables that are not there.
func (c textChecker) infer(e impl.Expr, args []string) (string, int) {
	switch e.Kind {
	case impl.ExprVar:
		return args[len(args)-1-e.N], impl.CheckOk
	case impl.ExprNum:
		return "I", impl.CheckOk
	case impl.ExprName:
		text, ok := c.vals[strings.TrimPrefix(e.Mod+"."+e.Name, ".")]
		if !ok {
			return "", impl.CheckName
		}
		return c.resolve(text)
	case impl.ExprFun:
		from, code := c.resolveHere(impl.FormatType(e.Arg))
		if code != impl.CheckOk {
			return "", code
		}
		to, code := c.infer(e.Kids[0], append(slices.Clone(args), from))
		if code == impl.CheckOk && !smallType("("+from+">"+to+")") {
			return "", impl.CheckLarge
		}
		return "(" + from + ">" + to + ")", code
	}
	return c.inferOperands(e, args)
}

// inferOperands goes through the operands of a call, a sum or a choice; those before the last two, and
// both of a sum, must be numbers.
func (c textChecker) inferOperands(e impl.Expr, args []string) (string, int) {
	var types []string
	for i, kid := range e.Kids {
		text, code := c.infer(kid, args)
		if code != impl.CheckOk {
			return "", code
		}
		if text != "I" && (e.Kind == impl.ExprAdd || e.Kind == impl.ExprIf && i == 0) {
			return "", impl.CheckType
		}
		types = append(types, text)
	}
	switch e.Kind {
	case impl.ExprAdd:
		return "I", impl.CheckOk
	case impl.ExprIf:
		if types[1] == types[2] {
			return types[1], impl.CheckOk
		}
	case impl.ExprApp:
		if from, to, ok := splitFun(types[0]); ok && from == types[1] {
			return to, impl.CheckOk
		}
	}
	return "", impl.CheckType
}

// inferClosed is infer for any valid expression outside of a structure.
func (c textChecker) inferClosed(e impl.Expr) (string, int) {
	if !isClosedOver(impl.FormatExpr(e), "", "") {
		return "", impl.CheckName
	}
	return plainText(c.infer(e, nil))
}

// principal returns the text of the principal signature of a valid structure.
func (c textChecker) principal(s []impl.Item) (string, int) {
	c.local, c.vals = map[string]string{}, maps.Clone(c.vals)
	var parts []string
	for _, d := range s {
		if d.Kind == impl.ItemType {
			text, code := c.resolveHere(impl.FormatType(d.Type))
			if code != impl.CheckOk {
				return "", code
			}
			c.local[d.Name] = text
			parts = append(parts, d.Name+"="+text)
			continue
		}
		text, code := c.infer(d.Expr, nil)
		if code != impl.CheckOk {
			return "", code
		}
		c.vals[d.Name] = text
		parts = append(parts, d.Name+":"+text)
	}
	if len(parts) > 8 {
		return "", impl.CheckLarge
	}
	return "{" + strings.Join(parts, ";") + "}", impl.CheckOk
}

// plainText returns no text together with another code than CheckOk.
func plainText(text string, code int) (string, int) {
	if code != impl.CheckOk {
		return "", code
	}
	return text, code
}

// randomScopeText makes the text of a valid scope. Its types are of at most this depth.
func randomScopeText(random *rand.Rand, depth int) string {
	var parts []string
	leaves := []string{"I"}
	for _, i := range random.Perm(8)[:random.Intn(5)] {
		n := "ABCDEFGH"[i : i+1]
		sig := randomSigOver(random, leaves, depth, random.Intn(7))
		parts = append(parts, n+":"+sig)
		for _, key := range slices.Sorted(maps.Keys(offeredTexts(sig))) {
			if strings.HasSuffix(key, "=") {
				leaves = append(leaves, n+"."+key[:1])
			}
		}
	}
	return strings.Join(parts, " ")
}

// randomSigOver makes the text of a signature that has normal types and mentions these types.
func randomSigOver(random *rand.Rand, leaves []string, depth, most int) string {
	for {
		var parts []string
		used := map[string]bool{}
		here := slices.Clone(leaves)
		for range most {
			n, sep := string("tuvw"[random.Intn(4)]), []string{"", "=", ":", ":"}[random.Intn(4)]
			if used[n+sep] || sep == "" && used[n+"="] || sep == "=" && used[n] {
				continue
			}
			used[n+sep] = true
			typ := ""
			if sep != "" {
				typ = randomTypeOver(random, here, depth)
			}
			if sep != ":" {
				here = append(here, n, n)
			}
			parts = append(parts, n+sep+typ)
		}
		if text := "{" + strings.Join(parts, ";") + "}"; smallTypes(normalText(text)) {
			return text
		}
	}
}

func randomTypeOver(random *rand.Rand, leaves []string, depth int) string {
	if depth > 1 && random.Intn(2) > 0 {
		return "(" + randomTypeOver(random, leaves, depth-1) + ">" + randomTypeOver(random, leaves, depth-1) + ")"
	}
	return leaves[random.Intn(len(leaves))]
}

// exprMaker makes expressions that have a given type by the rules of the document.
type exprMaker struct {
	random *rand.Rand
	names  map[string][]string // the names of types that mean a type, by its resolved text
	vals   map[string][]string // the values that have a type, by its resolved text
	types  []string            // the resolved texts of some types
}

func newExprMaker(random *rand.Rand, c textChecker) *exprMaker {
	m := &exprMaker{random, map[string][]string{}, map[string][]string{}, []string{"I", "(I>I)"}}
	for _, n := range slices.Sorted(maps.Keys(c.types)) {
		if text, code := c.resolve(n); code == impl.CheckOk {
			m.names[text] = append(m.names[text], n)
			m.types = append(m.types, text)
		}
	}
	for _, n := range slices.Sorted(maps.Keys(c.vals)) {
		if text, code := c.resolve(c.vals[n]); code == impl.CheckOk {
			m.vals[text] = append(m.vals[text], n)
			m.types = append(m.types, text)
		}
	}
	return m
}

// spell returns the text of a type that means the type with this resolved text.
func (m *exprMaker) spell(resolved string) string {
	if names := m.names[resolved]; len(names) > 0 && m.random.Intn(3) > 0 {
		return names[m.random.Intn(len(names))]
	}
	if from, to, ok := splitFun(resolved); ok {
		return "(" + m.spell(from) + ">" + m.spell(to) + ")"
	}
	return resolved
}

func (m *exprMaker) pick(list []string) string { return list[m.random.Intn(len(list))] }

// leaf returns the text of a variable, a name or a number that has a type, or the empty text.
func (m *exprMaker) leaf(want string, args []string) string {
	list := slices.Clone(m.vals[want])
	for i, arg := range args {
		if n := len(args) - 1 - i; arg == want && n <= 12 {
			list = append(list, impl.FormatExpr(variable(n)))
		}
	}
	if want == "I" {
		list = append(list, impl.FormatExpr(number(m.random.Intn(100))))
	}
	if len(list) == 0 {
		return ""
	}
	return m.pick(list)
}

// expr returns the text of an expression that has the type with this resolved text, where args are the
// types of the arguments of the functions around it, or the empty text if none has been found.
func (m *exprMaker) expr(want string, args []string, depth int) string {
	text := m.leaf(want, args)
	if depth == 0 || text != "" && m.random.Intn(3) == 0 {
		return text
	}
	next := func(want string) string { return m.expr(want, args, depth-1) }
	made := ""
	from, to, isFun := splitFun(want)
	switch kind := m.random.Intn(4); {
	case kind == 0 && want == "I":
		made = around("(*+*)", next("I"), next("I"))
	case kind == 0:
		made = around("?<*,*,*>", next("I"), next(want), next(want))
	case kind == 1 && isFun, text == "" && isFun:
		made = around("["+m.spell(from)+"]*", m.expr(to, append(slices.Clone(args), from), depth-1))
	case kind == 2:
		arg := m.pick(m.types)
		made = around("(["+m.spell(arg)+"]* *)", m.expr(want, append(slices.Clone(args), arg), depth-1), next(arg))
	default:
		made = m.callOf(want, args, depth)
	}
	if made == "" {
		return text
	}
	return made
}

// callOf calls a value or an argument whose results have the type that is wanted.
func (m *exprMaker) callOf(want string, args []string, depth int) string {
	var funs []string
	for _, typ := range slices.Concat(m.types, args) {
		if _, to, ok := splitFun(typ); ok && to == want {
			funs = append(funs, typ)
		}
	}
	if len(funs) == 0 {
		return ""
	}
	fun := m.pick(funs)
	from, _, _ := splitFun(fun)
	return around("(* *)", m.expr(fun, args, depth-1), m.expr(from, args, depth-1))
}

// around puts texts in the places of a pattern. It returns the empty text if one of them is empty.
func around(pattern string, texts ...string) string {
	for _, text := range texts {
		if text == "" {
			return ""
		}
		pattern = strings.Replace(pattern, "*", text, 1)
	}
	return pattern
}
