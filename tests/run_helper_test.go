package tests

import (
	"math/rand"
	"strconv"
	"strings"
	"testing"

	"loop.example/modlink/impl"
)

func def(mod, local string, e impl.Expr) impl.Def { return impl.Def{Mod: mod, Name: local, Expr: e} }

// parsedDefs reads definitions like "A.f:=[I](#0+1);x:=5".
func parsedDefs(t *testing.T, text string) []impl.Def {
	t.Helper()
	var list []impl.Def
	for _, one := range splitSig("{" + text + "}") {
		left, right, _ := strings.Cut(one, ":=")
		n := parsedExpr(t, left)
		list = append(list, def(n.Mod, n.Name, parsedExpr(t, right)))
	}
	return list
}

func zeroExpr(e impl.Expr) bool { return equalExprs(e, impl.Expr{}) }

// pureText reports whether the text of an expression has neither names nor variables that need a function around it.
func pureText(text string) bool { return shapeOf(text).free == 0 && len(pathTexts(text)) == 0 }

// valueText reports whether the text of a pure expression is that of a value.
func valueText(text string) bool { return text[0] != '(' && text[0] != '?' }

// withinText reports whether a text that has been put together is still that of a valid expression.
func withinText(text string) bool {
	shape := shapeOf(text)
	return shape.nodes <= 400 && shape.depth <= 40
}

// splitExpr returns the texts of the operands of a call, a sum or a choice, and the text in front of each
// one and behind the last one.
func splitExpr(text string) (operands, around []string) {
	depth, from := 0, 1
	if text[0] == '?' {
		from = 2 // the "<" behind it
	}
	around = []string{text[:from]}
	for i := from; i < len(text); i++ {
		switch c := text[i]; {
		case c == '[':
			i += strings.Index(text[i:], "]") // a type has brackets of its own
		case c == '(' || c == '<':
			depth++
		case depth > 0 && (c == ')' || c == '>'):
			depth--
		case depth == 0 && strings.ContainsRune(" +,)>", rune(c)):
			operands, around, from = append(operands, text[from:i]), append(around, text[i:i+1]), i+1
		}
	}
	return operands, around
}

func joinExpr(operands, around []string) string {
	text := around[0]
	for i, operand := range operands {
		text += operand + around[i+1]
	}
	return text
}

// substText replaces variables in the text of the body of a function, within so many functions.
func substText(body, v string, functions int) string {
	switch body[0] {
	case '#':
		n, _ := strconv.Atoi(body[1:])
		if n == functions {
			return v
		}
		if n > functions {
			return "#" + strconv.Itoa(n-1)
		}
	case '[':
		at := strings.Index(body, "]") + 1
		return body[:at] + substText(body[at:], v, functions+1)
	case '(', '?':
		operands, around := splitExpr(body)
		for i := range operands {
			operands[i] = substText(operands[i], v, functions)
		}
		return joinExpr(operands, around)
	}
	return body
}

// expandText replaces names in the text of an expression. A name that has no replacement becomes "@".
func expandText(text string, to map[string]string) string {
	switch c := text[0]; {
	case c == '[':
		at := strings.Index(text, "]") + 1
		return text[:at] + expandText(text[at:], to)
	case c == '(' || c == '?':
		operands, around := splitExpr(text)
		for i := range operands {
			operands[i] = expandText(operands[i], to)
		}
		return joinExpr(operands, around)
	case c == '#' || '0' <= c && c <= '9':
		return text
	case to[text] != "":
		return to[text]
	}
	return "@"
}

// stepText performs a step in the text of a pure expression, if there is one. The result may be too large.
func stepText(text string) (string, bool) {
	if valueText(text) {
		return "", false
	}
	operands, around := splitExpr(text)
	for i, operand := range operands {
		if valueText(operand) || text[0] == '?' && i > 0 {
			continue
		}
		next, ok := stepText(operand)
		operands[i] = next
		return joinExpr(operands, around), ok
	}
	left, isNumber := strconv.Atoi(operands[0])
	switch right, isRight := strconv.Atoi(operands[1]); {
	case around[1] == " " && operands[0][0] == '[':
		return substText(operands[0][strings.Index(operands[0], "]")+1:], operands[1], 0), true
	case around[1] == "+" && isNumber == nil && isRight == nil:
		sum := "0" + strconv.Itoa(left+right)
		return strings.TrimPrefix(sum[len(sum)-2:], "0"), true // the last two digits
	case around[1] == "," && isNumber == nil && left == 0:
		return operands[2], true
	case around[1] == "," && isNumber == nil:
		return operands[1], true
	}
	return "", false
}

// runText evaluates the text of a pure expression. It returns the result, the code and the number of steps.
func runText(text string, fuel int) (string, int, int) {
	for steps := 0; ; steps++ {
		next, ok := stepText(text)
		switch {
		case !ok && valueText(text):
			return text, impl.RunValue, steps
		case !ok:
			return text, impl.RunStuck, steps
		case steps == fuel:
			return "", impl.RunFuel, steps
		case !withinText(next):
			return "", impl.RunLarge, steps
		}
		text = next
	}
}

// checkStep compares a step of a pure expression with one in its text, and returns the code.
func checkStep(t *testing.T, e impl.Expr) int {
	t.Helper()
	text := impl.FormatExpr(e)
	want, wanted := text, impl.RunValue
	next, ok := stepText(text)
	switch {
	case ok && withinText(next):
		want, wanted = next, -1
	case ok:
		want, wanted = "", impl.RunLarge
	case !valueText(text):
		wanted = impl.RunStuck
	}
	got, code := impl.StepExpr(e)
	if code != wanted || impl.FormatExpr(got) != want || want == "" && !zeroExpr(got) {
		t.Errorf("StepExpr(%s) = %s, %d, want %s, %d", text, impl.FormatExpr(got), code, want, wanted)
	}
	if !impl.PureExpr(e) || impl.ValueExpr(e) != valueText(text) {
		t.Errorf("PureExpr(%s) = %v, ValueExpr = %v", text, impl.PureExpr(e), impl.ValueExpr(e))
	}
	return code
}

// checkRun compares the evaluation of a pure expression with one in its text, and returns the code.
func checkRun(t *testing.T, e impl.Expr, fuel int) int {
	t.Helper()
	text := impl.FormatExpr(e)
	want, wanted, steps := runText(text, fuel)
	got, code := impl.RunExpr(e, fuel)
	if code != wanted || impl.FormatExpr(got) != want || want == "" && !zeroExpr(got) {
		t.Errorf("RunExpr(%s, %d) = %s, %d, want %s, %d", text, fuel, impl.FormatExpr(got), code, want, wanted)
	}
	if got := impl.CountSteps(e, fuel); got != steps {
		t.Errorf("CountSteps(%s, %d) = %d, want %d", text, fuel, got, steps)
	}
	return code
}

// withoutNames is a copy in which numbers have taken the place of names.
func withoutNames(e impl.Expr) impl.Expr {
	if e.Kind == impl.ExprName {
		return number(int(e.Name[0]) % 3)
	}
	c := e
	c.Kids = nil
	for _, k := range e.Kids {
		c.Kids = append(c.Kids, withoutNames(k))
	}
	return c
}

// pureSized is an expression without names or variables that has this number of nodes.
func pureSized(count, operands int) impl.Expr {
	e, _ := sized(count, operands)
	return withoutNames(e)
}

// randomCall calls functions that mostly call their arguments, so that many evaluations do not end.
func randomCall(random *rand.Rand, free, depth int) impl.Expr {
	sub := func() impl.Expr { return randomCall(random, free, depth-1) }
	switch kind := random.Intn(10); {
	case free > 0 && (depth == 1 || kind < 3):
		return variable(random.Intn(free))
	case depth == 1:
		return number(random.Intn(3))
	case kind < 6 && (free > 0 || kind < 4):
		return call(sub(), sub())
	case kind == 8:
		return sum(sub(), sub())
	case kind == 9:
		return choice(sub(), sub(), sub())
	}
	return lambda(num, randomCall(random, free+1, depth-1))
}
