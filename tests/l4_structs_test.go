package tests

import (
	"math/rand"
	"strings"
	"testing"

	"loop.example/modlink/impl"
)

func TestStructsAndTheirTexts(t *testing.T) {
	u, v := name("", "u"), name("", "v")
	x, y := path("", "x"), path("", "y")
	tests := []struct {
		text string
		body []impl.Item
	}{
		{"{}", nil},
		{"{t=I}", defs(typeDef("t", num))},
		{"{x:=1}", defs(valDef("x", number(1)))},
		{"{t=I;z:=0;s:=[t](#0+1)}", defs(typeDef("t", num), valDef("z", number(0)), valDef("s", lambda(name("", "t"), sum(variable(0), number(1)))))},
		{"{a=A.t;z:=A.z}", defs(typeDef("a", name("A", "t")), valDef("z", path("A", "z")))},
		// A type and a value may have the same name.
		{"{u=I;u:=1}", defs(typeDef("u", num), valDef("u", number(1)))},
		{"{u:=1;u=I}", defs(valDef("u", number(1)), typeDef("u", num))},
		{"{x:=1;x=I;y:=[x]x;y=x}", defs(valDef("x", number(1)), typeDef("x", num), valDef("y", lambda(name("", "x"), x)), typeDef("y", name("", "x")))},
		{"{u=I;v=(u>u);u:=[v]#0;v:=(u u)}", defs(typeDef("u", num), typeDef("v", fun(u, u)), valDef("u", lambda(v, variable(0))), valDef("v", call(path("", "u"), path("", "u"))))},
		// Each name is defined before it is used, which may be more than once.
		{"{x:=1;y:=(x+x);z:=?<y,x,(y x)>}", defs(valDef("x", number(1)), valDef("y", sum(x, x)), valDef("z", choice(y, x, call(y, x))))},
		{"{u=I;x:=[u][(u>u)](#0 #1)}", defs(typeDef("u", num), valDef("x", lambda(u, lambda(fun(u, u), call(variable(0), variable(1))))))},
		// Names of modules need no definition.
		{"{t=(A.u>A.v);x:=[A.t](B.x #0)}", defs(typeDef("t", fun(name("A", "u"), name("A", "v"))), valDef("x", lambda(name("A", "t"), call(path("B", "x"), variable(0)))))},
		{"{t=A.t;t:=A.t}", defs(typeDef("t", name("A", "t")), valDef("t", path("A", "t")))},
	}
	for _, test := range tests {
		checkStruct(t, test.body, test.text)
	}
}

// checkStruct checks that a structure is valid, has this text, and is read back from it.
func checkStruct(t *testing.T, s []impl.Item, text string) {
	t.Helper()
	if !impl.StructValid(s) {
		t.Errorf("%s is not valid", text)
	}
	if got := impl.FormatStruct(s); got != text {
		t.Errorf("FormatStruct = %q, want %q", got, text)
	}
	if got, ok := impl.ParseStruct(text); !ok || !equalStructs(got, s) {
		t.Errorf("ParseStruct(%q) = %v, %v", text, got, ok)
	}
}

func checkInvalidStruct(t *testing.T, s []impl.Item) {
	t.Helper()
	if impl.StructValid(s) || impl.FormatStruct(s) != "" {
		t.Errorf("StructValid is %v, FormatStruct is %q", impl.StructValid(s), impl.FormatStruct(s))
	}
	if !impl.StructSame(s, s) {
		t.Error("a structure is not the same as itself")
	}
}

func checkNoStruct(t *testing.T, text string) {
	t.Helper()
	if got, ok := impl.ParseStruct(text); ok || len(got) != 0 {
		t.Errorf("ParseStruct(%.30q) = %v, %v", text, got, ok)
	}
}

func TestTextsThatAreNoStruct(t *testing.T) {
	for _, text := range []string{
		"", " ", "{", "}", "{{}", "{}}", "{{}}", "{} ", " {}", "{ }", "{}{}", "{}\n", "{x:=1", "x:=1}", "x:=1", "(x:=1)", "[x:=1]", "{x:=1)", "{x:=1}}", "{x:=1} ",
		"{;}", "{x:=1;}", "{;x:=1}", "{x:=1;;y:=1}", "{x:=1,y:=1}", "{x:=1 y:=1}", "{x:=1; y:=1}", "{x:=1 ;y:=1}", "{x:=1y:=1}", "{t=It=I}",
		"{x}", "{t}", "{x:}", "{x=}", "{x:=}", "{t:I}", "{x:1}", "{x=1}", "{t:=I}", "{x==1}", "{x::=1}", "{x:==1}", "{x=:1}", "{x: =1}", "{x := 1}", "{x:= 1}", "{x :=1}", "{t =I}", "{t= I}", "{:=1}", "{=I}",
		"{X:=1}", "{T=I}", "{I=I}", "{I:=1}", "{A.x:=1}", "{A.t=I}", "{xx:=1}", "{tt=I}", "{1:=1}", "{`:=1}", "{{:=1}", "{é:=1}", "{x\x00:=1}", "{x:=1\x00}",
		"{x:=01}", "{x:=00}", "{x:=100}", "{x:=1 2}", "{x:=(1 2}", "{x:=[I]}", "{x:=[I]#01}", "{x:=[I]#13}", "{x:=A}", "{x:=A.}", "{x:=I}", "{t=01}", "{t=A}", "{t=(I>I}", "{t=(I)}",
		// Each expression is closed.
		"{x:=#0}", "{x:=[I]#1}", "{x:=([I]#0 #0)}", "{x:=[I]1;y:=#0}", "{x:=[I][I](#0 #2)}", "{x:=[I]#12}", "{x:=?<1,2,#0>}",
		// Nothing is defined twice.
		"{x:=1;x:=1}", "{x:=1;x:=2}", "{x:=1;y:=1;x:=1}", "{t=I;t=I}", "{t=I;t=(I>I)}", "{t=I;u=I;t=I}", "{x:=1;x=I;x:=1}", "{x=I;x:=1;x=I}",
		// Nothing is used before it is defined.
		"{x:=x}", "{x:=y}", "{x:=y;y:=1}", "{x:=(1+y);y:=1}", "{y:=1;x:=(y+z);z:=1}", "{x:=[I]x}", "{x:=?<1,1,y>}", "{t=t}", "{t=u}", "{t=u;u=I}", "{t=(I>t)}", "{u=I;t=(u>v);v=I}",
		"{x:=[t]1}", "{x:=[t]1;t=I}", "{x:=[(I>t)]1}", "{t=I;x:=[t][u]1}", "{t=I;x:=[u][t]1}", "{x:=(1 [t]1)}",
		// A type is no value.
		"{t=I;x:=t}", "{x:=1;t=x}", "{x:=1;y:=[x]1}", "{t=I;x:=[t]t}", "{x:=1;y:=[x]x}", "{t:=1;t=t}", "{t=I;t:=t}",
		strings.Repeat("{", 1000000), "{" + strings.Repeat("x:=1;", 1000000), "{" + strings.Repeat("t=", 1000000), "{x:=" + strings.Repeat("(", 1000000), "{x:=" + strings.Repeat("[I]", 1000000), "{t=" + strings.Repeat("(I>", 1000000), "{x:=" + strings.Repeat("1", 1000000),
	} {
		checkNoStruct(t, text)
	}
	for _, text := range badNumbers() {
		for _, around := range []string{"{x:=*}", "{x:=[I]*}", "{x:=(1+*)}"} {
			checkNoStruct(t, strings.Replace(around, "*", text, 1))
		}
	}
}

// TestAllShortStructTexts compares ParseStruct, for each text of a few tokens, with a reading by splitting.
func TestAllShortStructTexts(t *testing.T) {
	accepted := 0
	for tokens, most := range map[string]int{"{ } ; = : t I x 1": 5, "; = : t I x 1": 6, "t = I ; : 1": 7, "t= x:= I t 1 x ; [t]": 7, "t= t:= u= I [t] ; 1": 7, "t := = t; 1; I; [t]": 7} {
		eachText(strings.Split(tokens, " "), most, func(inner string) {
			text := "{" + inner + "}"
			got, ok := impl.ParseStruct(text)
			if want := isStructText(text); ok != want || ok && impl.FormatStruct(got) != text || !ok && len(got) != 0 {
				t.Errorf("ParseStruct(%q) = %v, %v", text, got, ok)
			}
			if ok {
				accepted++
			}
		})
	}
	if accepted < 40 {
		t.Errorf("only %d texts are accepted", accepted)
	}
}

// TestStructsOfShortDefinitions tries all lists of a few definitions.
func TestStructsOfShortDefinitions(t *testing.T) {
	list := strings.Fields("t=I t=u u=t u=(t>A.u) t:=1 t:=u u:=t u:=A.t u:=[t]t t:=[u]#0 t:=[(t>u)](u+A.u) u:=#0 t:=[t]#1 v=I v=u v:=2 v:=u v:=[v]v")
	accepted, rejected := 0, 0
	var visit func(text string, most int)
	visit = func(text string, most int) {
		got, ok := impl.ParseStruct(text + "}")
		if want := isStructText(text + "}"); ok != want || ok && impl.FormatStruct(got) != text+"}" {
			t.Fatalf("ParseStruct(%s}) = %v, %v", text, got, ok)
		}
		if !ok {
			rejected++
			return
		}
		accepted++
		for _, def := range list {
			if most > 0 {
				visit(strings.Replace(text+";"+def, "{;", "{", 1), most-1)
			}
		}
	}
	visit("{", 5)
	if accepted < 1000 || rejected < 1000 {
		t.Errorf("%d texts are accepted, %d are not", accepted, rejected)
	}
}

// TestRandomStructs checks promise 4 for structures.
func TestRandomStructs(t *testing.T) {
	random := rand.New(rand.NewSource(14))
	accepted, rejected := 0, 0
	for range 20000 {
		s, text := randomStruct(random)
		checkStruct(t, s, text)
		text = changedBytes(random, text, "{};=:(>)[]01#ItuA. +?<,")
		got, ok := impl.ParseStruct(text)
		if want := isStructText(text); ok != want || ok && impl.FormatStruct(got) != text || !ok && len(got) != 0 {
			t.Fatalf("ParseStruct(%q) = %v, %v", text, got, ok)
		}
		if ok {
			accepted++
		} else {
			rejected++
		}
	}
	if accepted < 1000 || rejected < 1000 {
		t.Errorf("%d texts are accepted, %d are not", accepted, rejected)
	}
}

// TestOrderOfDefinitions swaps and removes definitions of random structures.
func TestOrderOfDefinitions(t *testing.T) {
	random := rand.New(rand.NewSource(15))
	accepted, rejected := 0, 0
	for range 20000 {
		s, text := randomStruct(random)
		if len(s) < 2 {
			continue
		}
		parts := splitStruct(text)
		i, j := random.Intn(len(s)), random.Intn(len(s))
		if random.Intn(2) == 0 {
			s, parts = append(s[:i:i], s[i+1:]...), append(parts[:i:i], parts[i+1:]...)
		} else {
			s[i], s[j], parts[i], parts[j] = s[j], s[i], parts[j], parts[i]
		}
		text = "{" + strings.Join(parts, ";") + "}"
		if isStructText(text) {
			checkStruct(t, s, text)
			accepted++
		} else {
			checkInvalidStruct(t, s)
			checkNoStruct(t, text)
			rejected++
		}
	}
	if accepted < 1000 || rejected < 1000 {
		t.Errorf("%d structures are accepted, %d are not", accepted, rejected)
	}
}

// invalidDefs lists definitions that are in no structure that has no other type than t.
func invalidDefs() []impl.Item {
	list := defs(impl.Item{}, impl.Item{Name: "x"}, typeDef("", num), valDef("", number(1)), typeDef("x", name("", "u")), valDef("x", path("", "u")), valDef("x", lambda(name("", "u"), number(1))), valDef("x", variable(0)), valDef("x", path("", "t")))
	for _, kind := range []int{-1, 0, 3, 4, 77, 1 << 40} {
		list = append(list, impl.Item{Kind: kind, Name: "x"}, impl.Item{Kind: kind, Name: "x", Type: num}, impl.Item{Kind: kind, Name: "x", Expr: number(1)})
	}
	for _, n := range []string{"A", "I", "xx", "x ", " x", "`", "{", "0", "é", "\xff", "A.x"} {
		list = append(list, typeDef(n, num), valDef(n, number(1)))
	}
	for _, x := range append(invalidTypes(), chain(9, true, num), full(7, num), loop(1, num), loop(1000, num)) {
		list = append(list, typeDef("x", x), typeDef("x", fun(num, x)))
	}
	for _, e := range append(invalidExprs(), deep(41), exprLoop(1, number(1)), sharedExpr(200, number(1))) {
		list = append(list, valDef("x", e))
	}
	for _, e := range []impl.Expr{number(0), number(1), path("A", "x"), {N: 1}, {N: -1}, {Mod: "A"}, {Name: "x"}, {Arg: num}, {Arg: impl.Type{Name: "t"}}, {Arg: loop(1, num)}, {Kind: 8}, {Kids: []impl.Expr{{}}}, exprLoop(1, number(1))} {
		list = append(list, impl.Item{Kind: impl.ItemType, Name: "x", Type: num, Expr: e})
	}
	for _, x := range []impl.Type{num, name("", "t"), name("A", "t"), fun(num, num), {Mod: "A"}, {Name: "t"}, {Kind: 4}, {Kids: []impl.Type{{}}}, loop(1, num)} {
		list = append(list, impl.Item{Kind: impl.ItemVal, Name: "x", Type: x, Expr: number(1)})
	}
	return list
}

func TestInvalidStructs(t *testing.T) {
	first, last := typeDef("t", num), valDef("y", number(1))
	for _, x := range invalidDefs() {
		checkInvalidStruct(t, defs(x))
		checkInvalidStruct(t, defs(first, x))
		checkInvalidStruct(t, defs(x, last))
		checkInvalidStruct(t, defs(first, x, last))
	}
}

// TestEachExprOfAStructIsClosed has expressions that are valid, but not all of them closed.
func TestEachExprOfAStructIsClosed(t *testing.T) {
	for n := range 13 {
		for functions := range 15 {
			e := variable(n)
			text := impl.FormatExpr(e)
			for range functions {
				e, text = lambda(num, e), "[I]"+text
			}
			s, whole := defs(valDef("x", number(1)), valDef("y", e)), "{x:=1;y:="+text+"}"
			if n < functions {
				checkStruct(t, s, whole)
			} else {
				checkInvalidStruct(t, s)
				checkNoStruct(t, whole)
			}
		}
	}
}

func TestDefsLimit(t *testing.T) {
	const names = "abcdefghijklmnopqrstuvwxyz"
	for count := 8; count <= 13; count++ {
		var types, vals, both []impl.Item
		texts := [3]string{}
		for i := range count {
			n := names[i : i+1]
			types, texts[0] = append(types, typeDef(n, num)), texts[0]+";"+n+"=I"
			vals, texts[1] = append(vals, valDef(n, number(i))), texts[1]+";"+n+":="+impl.FormatExpr(number(i))
			if n = names[i/2 : i/2+1]; i%2 == 0 {
				both, texts[2] = append(both, typeDef(n, num)), texts[2]+";"+n+"=I"
			} else {
				both, texts[2] = append(both, valDef(n, lambda(name("", n), number(1)))), texts[2]+";"+n+":=["+n+"]1"
			}
		}
		for i, s := range [][]impl.Item{types, vals, both} {
			text := "{" + texts[i][1:] + "}"
			if count <= 10 {
				checkStruct(t, s, text)
			} else {
				checkInvalidStruct(t, s)
				checkNoStruct(t, text)
			}
		}
	}
}

func TestLimitsInStructs(t *testing.T) {
	for _, test := range []struct {
		typ  impl.Type
		text string
		want bool
	}{
		{chain(8, true, num), strings.Repeat("(", 7) + "I" + strings.Repeat(">I)", 7), true},
		{chain(9, true, num), strings.Repeat("(", 8) + "I" + strings.Repeat(">I)", 8), false},
		{full(6, num), fullText(6, "I"), true},
		{fun(full(6, num), num), "(" + fullText(6, "I") + ">I)", false},
	} {
		checkStructLimit(t, defs(typeDef("x", test.typ)), "{x="+test.text+"}", test.want)
		checkStructLimit(t, defs(valDef("x", lambda(test.typ, number(1)))), "{x:=["+test.text+"]1}", test.want)
	}
	for count := 398; count <= 402; count++ {
		e, text := sized(count, 2)
		one := valDef("x", number(1))
		checkStructLimit(t, defs(one, valDef("a", e), valDef("b", e)), "{x:=1;a:="+text+";b:="+text+"}", count <= 400)
	}
	for depth := 38; depth <= 42; depth++ {
		checkStructLimit(t, defs(valDef("x", deep(depth)), valDef("y", deep(depth))), "{x:="+deepText(depth)+";y:="+deepText(depth)+"}", depth <= 40)
	}
	for n := 98; n <= 101; n++ {
		text := strings.Replace("{x:=*}", "*", []string{"98", "99", "100", "101"}[n-98], 1)
		checkStructLimit(t, defs(valDef("x", number(n))), text, n <= 99)
	}
}

func checkStructLimit(t *testing.T, s []impl.Item, text string, want bool) {
	t.Helper()
	if want {
		checkStruct(t, s, text)
		return
	}
	checkInvalidStruct(t, s)
	checkNoStruct(t, text)
}

func TestEmptySlicesInStructsAreNone(t *testing.T) {
	a := defs(typeDef("t", num), valDef("x", lambda(name("", "t"), number(1))))
	b := copyStruct(a)
	b[0].Type.Kids, b[0].Expr.Kids, b[0].Expr.Arg.Kids = []impl.Type{}, []impl.Expr{}, []impl.Type{}
	b[1].Type.Kids, b[1].Expr.Arg.Kids, b[1].Expr.Kids[0].Kids = []impl.Type{}, []impl.Type{}, []impl.Expr{}
	if !impl.StructValid(b) || impl.FormatStruct(b) != "{t=I;x:=[t]1}" || !impl.StructSame(a, b) || !impl.StructSame(b, a) {
		t.Error("empty Kids are not treated as none")
	}
	if !impl.StructSame(nil, defs()) || impl.FormatStruct(defs()) != "{}" || impl.FormatStruct(nil) != "{}" || !impl.StructValid(nil) {
		t.Error("an empty structure is not treated as nil")
	}
}

func TestStructSame(t *testing.T) {
	list := defs(impl.Item{}, typeDef("x", num), typeDef("y", num), typeDef("x", fun(num, num)), typeDef("x", name("A", "t")), valDef("x", number(1)), valDef("x", number(2)), valDef("y", number(1)), valDef("x", lambda(num, number(1))), valDef("x", lambda(name("", "t"), number(1))),
		impl.Item{Kind: 1, Name: "x", Type: num, Expr: number(1)}, impl.Item{Kind: 2, Name: "x", Type: num, Expr: number(1)}, impl.Item{Kind: 3, Name: "x"}, impl.Item{Kind: 3, Name: "xx"}, impl.Item{Kind: 3, Type: impl.Type{Kids: []impl.Type{{}}}}, impl.Item{Kind: 3, Expr: impl.Expr{Kids: []impl.Expr{{}}}})
	for i, a := range list {
		for _, b := range list {
			same := equalStructs(defs(a), defs(b))
			if impl.StructSame(defs(a), defs(b)) != same || impl.StructSame(defs(a, a), defs(a, b)) != same || impl.StructSame(defs(a, b), defs(b, a)) != same {
				t.Errorf("StructSame of %v and %v is not %v", a, b, same)
			}
		}
		if impl.StructSame(defs(a), nil) || impl.StructSame(nil, defs(a)) || impl.StructSame(defs(a), defs(a, a)) || impl.StructSame(list[:i], list[:i+1]) || !impl.StructSame(list[:i], copyStruct(list[:i])) {
			t.Errorf("StructSame is wrong for lists with %v", a)
		}
	}
}

func TestStructSameOfLargeStructs(t *testing.T) {
	large := func(leaf impl.Type, n int) []impl.Item {
		e, x := lambda(chain(1000, true, leaf), deep(1000)), chain(1000, false, leaf)
		e = call(e, number(n))
		var s []impl.Item
		for range 20000 {
			s = append(s, impl.Item{Kind: 2, Name: "x", Type: x, Expr: e})
		}
		return s
	}
	a := large(num, 1)
	if !impl.StructSame(a, large(num, 1)) || impl.StructSame(a, large(num, 2)) || impl.StructSame(a, large(name("", "t"), 1)) {
		t.Error("StructSame is wrong for large structures")
	}
	if impl.StructValid(a) || impl.FormatStruct(a) != "" {
		t.Error("a large structure is valid")
	}
	loops := func(e impl.Expr, x impl.Type) []impl.Item {
		return defs(typeDef("t", x), valDef("x", e), valDef("y", lambda(x, e)))
	}
	b := loops(exprLoop(2, number(1)), loop(3, num))
	if checkInvalidStruct(t, b); !impl.StructSame(b, loops(exprLoop(5, number(1)), loop(4, num))) || impl.StructSame(b, loops(exprLoop(2, number(2)), loop(3, num))) || impl.StructSame(b, loops(exprLoop(2, number(1)), loop(3, name("", "t")))) {
		t.Error("StructSame is wrong for structures that contain themselves")
	}
}

func TestResultsOfStructsAreNewMemory(t *testing.T) {
	const text = "{t=((I>I)>I);u=((I>I)>I);x:=[(t>u)]?<1,2,3>;y:=[(t>u)]?<1,2,3>}"
	first, second := parsedStruct(t, text), parsedStruct(t, text)
	kept := copyStruct(second)
	spoilStruct(first)
	if !equalStructs(second, kept) {
		t.Error("results of ParseStruct share memory")
	}
	for i := range second {
		spoil(second[i].Type)
		spoilExpr(second[i].Expr)
		if !equalStructs(second[i+1:], kept[i+1:]) {
			t.Error("definitions of one result share memory")
		}
	}
}

func TestStructArgumentsAreNotChanged(t *testing.T) {
	backing := defs(typeDef("t", num), valDef("x", number(1)), valDef("y", lambda(name("", "t"), path("", "x"))), typeDef("t", num), valDef("z", variable(0)))
	kept := copyStruct(backing)
	for size := range backing {
		impl.StructValid(backing[:size])
		impl.StructSame(backing[:size], backing[len(backing)-size:])
		impl.FormatStruct(backing[:size])
		if !equalStructs(backing, kept) {
			t.Fatalf("an argument has changed: %v", backing)
		}
	}
}
