package tests

import (
	"math/rand"
	"regexp"
	"slices"
	"strconv"
	"strings"
	"testing"

	"loop.example/modlink/impl"
)

func variable(n int) impl.Expr { return impl.Expr{Kind: impl.ExprVar, N: n} }
func number(n int) impl.Expr   { return impl.Expr{Kind: impl.ExprNum, N: n} }

func path(mod, local string) impl.Expr {
	return impl.Expr{Kind: impl.ExprName, Mod: mod, Name: local}
}

func lambda(arg impl.Type, body impl.Expr) impl.Expr {
	return impl.Expr{Kind: impl.ExprFun, Arg: arg, Kids: []impl.Expr{body}}
}

func call(f, a impl.Expr) impl.Expr {
	return impl.Expr{Kind: impl.ExprApp, Kids: []impl.Expr{f, a}}
}

func sum(a, b impl.Expr) impl.Expr {
	return impl.Expr{Kind: impl.ExprAdd, Kids: []impl.Expr{a, b}}
}

func choice(c, a, b impl.Expr) impl.Expr {
	return impl.Expr{Kind: impl.ExprIf, Kids: []impl.Expr{c, a, b}}
}

func typeDef(local string, t impl.Type) impl.Item {
	return impl.Item{Kind: impl.ItemType, Name: local, Type: t}
}

func valDef(local string, e impl.Expr) impl.Item {
	return impl.Item{Kind: impl.ItemVal, Name: local, Expr: e}
}

func defs(list ...impl.Item) []impl.Item { return list }

func parsedExpr(t *testing.T, text string) impl.Expr {
	t.Helper()
	e, ok := impl.ParseExpr(text)
	if !ok {
		t.Fatalf("ParseExpr rejects %q", text)
	}
	return e
}

func parsedStruct(t *testing.T, text string) []impl.Item {
	t.Helper()
	s, ok := impl.ParseStruct(text)
	if !ok {
		t.Fatalf("ParseStruct rejects %q", text)
	}
	return s
}

// equalExprs compares expressions without the help of the program.
func equalExprs(a, b impl.Expr) bool {
	return a.Kind == b.Kind && a.N == b.N && a.Mod == b.Mod && a.Name == b.Name && equalTypes(a.Arg, b.Arg) && slices.EqualFunc(a.Kids, b.Kids, equalExprs)
}

// equalStructs compares structures without the help of the program.
func equalStructs(a, b []impl.Item) bool {
	return slices.EqualFunc(a, b, func(x, y impl.Item) bool {
		return x.Kind == y.Kind && x.Name == y.Name && equalTypes(x.Type, y.Type) && equalExprs(x.Expr, y.Expr)
	})
}

func copyExpr(e impl.Expr) impl.Expr {
	c := e
	c.Arg, c.Kids = copyType(e.Arg), nil
	for _, k := range e.Kids {
		c.Kids = append(c.Kids, copyExpr(k))
	}
	return c
}

func copyStruct(s []impl.Item) []impl.Item {
	var c []impl.Item
	for _, x := range s {
		c = append(c, impl.Item{Kind: x.Kind, Name: x.Name, Type: copyType(x.Type), Expr: copyExpr(x.Expr)})
	}
	return c
}

// spoilExpr changes all memory that an expression reaches, including unused capacity.
func spoilExpr(e impl.Expr) {
	spoil(e.Arg)
	kids := e.Kids[:cap(e.Kids)]
	for i := range kids {
		spoilExpr(kids[i])
		kids[i] = impl.Expr{Kind: 77, Mod: "spoiled"}
	}
}

// spoilStruct changes all memory that a structure reaches, including unused capacity.
func spoilStruct(s []impl.Item) {
	s = s[:cap(s)]
	for i := range s {
		spoil(s[i].Type)
		spoilExpr(s[i].Expr)
		s[i] = impl.Item{Kind: 77, Name: "spoiled"}
	}
}

var (
	argPattern      = regexp.MustCompile(`\[([^\]]*)\]`)
	leafPattern     = regexp.MustCompile(`#1[0-2]|#[0-9]|[1-9]?[0-9]|([A-HJ-Z]\.)?[a-z]`)
	operatorPattern = regexp.MustCompile(`\(@ @\)|\(@\+@\)|\?<@,@,@>|!@`)
	pathPattern     = regexp.MustCompile(`([A-Z]\.)?[a-z]`)
	defPattern      = regexp.MustCompile(`^([a-z])(:?=)(.*)$`)
)

// argTexts returns the texts of the types of the arguments in the text of an expression.
func argTexts(text string) []string {
	var args []string
	for _, match := range argPattern.FindAllStringSubmatch(text, -1) {
		args = append(args, match[1])
	}
	return args
}

// pathTexts returns the names in the text of an expression, each once.
func pathTexts(text string) []string {
	var paths []string
	for _, p := range pathPattern.FindAllString(argPattern.ReplaceAllString(text, ""), -1) {
		if !slices.Contains(paths, p) {
			paths = append(paths, p)
		}
	}
	return paths
}

// isExprText decides what ParseExpr should accept. It replaces parts of the text by "@", first those
// without operands, until nothing else is left.
func isExprText(text string) bool {
	if strings.ContainsAny(text, "@!") {
		return false
	}
	for _, arg := range argTexts(text) {
		if !smallType(arg) {
			return false
		}
	}
	rest := leafPattern.ReplaceAllString(argPattern.ReplaceAllString(text, "!"), "@")
	for operatorPattern.MatchString(rest) {
		rest = operatorPattern.ReplaceAllString(rest, "@")
	}
	if rest != "@" {
		return false
	}
	shape := shapeOf(text)
	return shape.nodes <= 400 && shape.depth <= 40
}

type exprShape struct{ nodes, depth, free int }

// shapeOf scans the text of an expression. What follows a separator is as deep, and within as many
// functions, as what follows the bracket in front of it.
func shapeOf(text string) exprShape {
	type place struct{ depth, functions int }
	shape := exprShape{}
	at := place{1, 0}
	var open []place
	for i := 0; i < len(text); i++ {
		switch text[i] {
		case ' ', '+', ',':
			at = open[len(open)-1]
			continue
		case ')', '>':
			open = open[:len(open)-1]
			continue
		}
		shape.nodes++
		shape.depth = max(shape.depth, at.depth)
		switch c := text[i]; c {
		case '(', '?':
			at.depth++
			open = append(open, at)
			if c == '?' {
				i++ // the "<" behind it
			}
		case '[':
			at = place{at.depth + 1, at.functions + 1}
			i += strings.Index(text[i:], "]")
		default:
			leaf := leafPattern.FindString(text[i:])
			if c == '#' {
				n, _ := strconv.Atoi(leaf[1:])
				shape.free = max(shape.free, n+1-at.functions)
			}
			i += len(leaf) - 1
		}
	}
	return shape
}

// splitStruct returns the texts of the definitions of a text that begins and ends like a structure.
func splitStruct(text string) []string { return splitSig(text) }

// isStructText decides what ParseStruct should accept by splitting the text.
func isStructText(text string) bool {
	if len(text) < 2 || !strings.HasPrefix(text, "{") || !strings.HasSuffix(text, "}") {
		return false
	}
	parts := splitStruct(text)
	types, vals := "", ""
	for _, part := range parts {
		match := defPattern.FindStringSubmatch(part)
		switch {
		case match == nil:
			return false
		case match[2] == "=":
			if !isTypeOver(match[3], types) || strings.Contains(types, match[1]) {
				return false
			}
			types += match[1]
		default:
			if !isClosedOver(match[3], types, vals) || strings.Contains(vals, match[1]) {
				return false
			}
			vals += match[1]
		}
	}
	return len(parts) <= 10
}

// isClosedOver reports whether a text is that of a closed expression that uses only these names without a module.
func isClosedOver(text, types, vals string) bool {
	if !isExprText(text) || shapeOf(text).free > 0 {
		return false
	}
	for _, arg := range argTexts(text) {
		if !isTypeOver(arg, types) {
			return false
		}
	}
	for _, p := range pathTexts(text) {
		if len(p) == 1 && !strings.Contains(vals, p) {
			return false
		}
	}
	return true
}

// randomExpr makes an expression and its text. Types and vals are the names that it may use without a
// module; its variables need at most this many functions around it.
func randomExpr(random *rand.Rand, types, vals string, free, depth int) (impl.Expr, string) {
	if depth == 1 || random.Intn(4) == 0 {
		return randomLeaf(random, vals, free)
	}
	sub := func() (impl.Expr, string) { return randomExpr(random, types, vals, free, depth-1) }
	switch random.Intn(5) {
	case 0:
		f, ft := sub()
		a, at := sub()
		return call(f, a), "(" + ft + " " + at + ")"
	case 1:
		a, at := sub()
		b, bt := sub()
		return sum(a, b), "(" + at + "+" + bt + ")"
	case 2:
		c, ct := sub()
		a, at := sub()
		b, bt := sub()
		return choice(c, a, b), "?<" + ct + "," + at + "," + bt + ">"
	}
	argText := smallTypeText(random, types, 1+random.Intn(4))
	arg, _ := impl.ParseType(argText)
	b, bt := randomExpr(random, types, vals, min(free+1, 13), depth-1)
	return lambda(arg, b), "[" + argText + "]" + bt
}

func randomLeaf(random *rand.Rand, vals string, free int) (impl.Expr, string) {
	kind := random.Intn(4)
	switch {
	case kind < 2 && free > 0:
		n := random.Intn(free)
		return variable(n), "#" + strconv.Itoa(n)
	case kind == 2 && vals != "":
		n := string(vals[random.Intn(len(vals))])
		return path("", n), n
	case kind == 3:
		mod, n := string("ABZ"[random.Intn(3)]), string("axy"[random.Intn(3)])
		return path(mod, n), mod + "." + n
	}
	n := random.Intn(100)
	return number(n), strconv.Itoa(n)
}

// randomStruct makes a structure and its text.
func randomStruct(random *rand.Rand) ([]impl.Item, string) {
	var s []impl.Item
	var parts []string
	types, vals := "", ""
	for range random.Intn(11) {
		n := string("tuvwx"[random.Intn(5)])
		if random.Intn(2) == 0 {
			if strings.Contains(types, n) {
				continue
			}
			text := smallTypeText(random, types, 1+random.Intn(4))
			typ, _ := impl.ParseType(text)
			s, parts = append(s, typeDef(n, typ)), append(parts, n+"="+text)
			types += n
			continue
		}
		if strings.Contains(vals, n) {
			continue
		}
		e, text := randomExpr(random, types, vals, 0, 1+random.Intn(5))
		s, parts = append(s, valDef(n, e)), append(parts, n+":="+text)
		vals += n
	}
	return s, "{" + strings.Join(parts, ";") + "}"
}

// eachText visits all texts of at most so many tokens.
func eachText(tokens []string, most int, visit func(text string)) {
	var longer func(text string, most int)
	longer = func(text string, most int) {
		visit(text)
		for _, token := range tokens {
			if most > 0 {
				longer(text+token, most-1)
			}
		}
	}
	longer("", most)
}

// changedBytes changes, removes or inserts a few bytes of a text.
func changedBytes(random *rand.Rand, text, alphabet string) string {
	for range random.Intn(3) {
		if text == "" {
			break
		}
		at := random.Intn(len(text))
		c := string(alphabet[random.Intn(len(alphabet))])
		text = text[:at] + []string{c, "", c + text[at:at+1]}[random.Intn(3)] + text[at+1:]
	}
	return text
}
