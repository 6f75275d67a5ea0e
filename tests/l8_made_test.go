package tests

import (
	"slices"
	"strings"
	"testing"

	"loop.example/modlink/impl"
)

// checkMadeSig checks MadeSig, of which the result is a text or a code.
func checkMadeSig(t *testing.T, scope, functor, args, want string, code int) {
	t.Helper()
	f, ok := splitUnit(functor)
	if !ok {
		t.Fatalf("splitUnit rejects %s", functor)
	}
	if got := checkMade(t, scope, f, strings.Fields(args)); got != code {
		t.Errorf("MadeSig(%s, %s, %s) returns %d, want %d", scope, functor, args, got, code)
	}
	if sig, _ := makeInTexts(scope, f, strings.Fields(args)); sig != want {
		t.Errorf("MadeSig(%s, %s, %s) is %s, want %s", scope, functor, args, sig, want)
	}
}

func TestMadeSig(t *testing.T) {
	for _, test := range []struct{ functor, args, want string }{
		{"F(P:{}):{}={}", "A", "{}"},
		{"F(P:{}):{t;x:t}={t=I;x:=1}", "A", "{t;x:t}"},
		{"F(P:{t}):{t=P.t;u=(t>P.t);x:u}={}", "A", "{t=A.t;u=(t>A.t);x:u}"},
		{"F(P:{t}):{t=P.t;u=(t>P.t);x:u}={}", "B", "{t=B.t;u=(t>B.t);x:u}"},
		{"F(P:{t}):{x:(P.t>(A.t>P.t))}={}", "B", "{x:(B.t>(A.t>B.t))}"},
		{"F(P:{t;z:t;s:(t>t);g:(t>I)}):{y:P.t}={}", "C", ""},
		{"F(P:{t=A.t}):{y:P.t}={}", "C", "{y:C.t}"},
		{"F(P:{t=A.t}):{y:P.t}={}", "A", "{y:A.t}"},
		{"F(P:{t=A.t}):{y:P.t}={}", "B", ""},
		{"F(P:{t;u=(t>B.t)}):{y:P.u}={}", "C", "{y:C.u}"},
		{"F(P:{t})(Q:{t}):{x:P.t;y:Q.t}={}", "A B", "{x:A.t;y:B.t}"},
		{"F(P:{t})(Q:{t}):{x:P.t;y:Q.t}={}", "B A", "{x:B.t;y:A.t}"},
		{"F(P:{t})(Q:{t}):{x:P.t;y:Q.t}={}", "A A", "{x:A.t;y:A.t}"},
		{"F(P:{t})(Q:{t=P.t}):{x:P.t;y:Q.t}={}", "A A", "{x:A.t;y:A.t}"},
		{"F(P:{t})(Q:{t=P.t}):{x:P.t;y:Q.t}={}", "A C", "{x:A.t;y:C.t}"},
		{"F(P:{t})(Q:{t=P.t}):{x:P.t;y:Q.t}={}", "C A", "{x:C.t;y:A.t}"},
		{"F(P:{t})(Q:{t=P.t}):{x:P.t;y:Q.t}={}", "B C", ""},
		{"F(P:{t})(Q:{t})(R:{f:(P.t>Q.t)}):{x:R.f}={}", "A B C", "{x:C.f}"},
		{"F(P:{t})(Q:{t})(R:{f:(P.t>Q.t)}):{x:R.f}={}", "C B C", "{x:C.f}"},
		{"F(P:{t})(Q:{t})(R:{f:(P.t>Q.t)}):{x:R.f}={}", "B A C", ""},
		// All names are replaced at once, also where an argument has the name of a parameter.
		{"F(A:{t})(B:{t}):{x:A.t;y:B.t;z:C.t}={}", "B A", "{x:B.t;y:A.t;z:C.t}"},
		{"F(A:{t})(B:{t}):{x:A.t;y:B.t;z:C.t}={}", "B C", "{x:B.t;y:C.t;z:C.t}"},
		{"F(A:{t})(B:{t})(C:{t}):{x:(A.t>(B.t>C.t))}={}", "B C A", "{x:(B.t>(C.t>A.t))}"},
		{"F(A:{t})(B:{t})(C:{t}):{x:(A.t>(B.t>C.t))}={}", "C A B", "{x:(C.t>(A.t>B.t))}"},
		{"F(B:{t})(A:{t=B.t}):{x:(A.t>B.t)}={}", "A C", "{x:(C.t>A.t)}"},
		{"F(B:{t})(A:{t=B.t}):{x:(A.t>B.t)}={}", "B A", ""},
		{"F(A:{t})(B:{t})(R:{f:(B.t>A.t)}):{x:R.f}={}", "B A C", "{x:C.f}"},
		{"F(A:{t})(B:{t})(R:{f:(A.t>B.t)}):{x:R.f}={}", "B A C", ""},
		// The functor need not check: it may mention what is not there, and its body does not matter.
		{"F(P:{}):{x:Z.t;y:F.t;z:P.q}={}", "A", "{x:Z.t;y:F.t;z:A.q}"},
		{"A(P:{}):{x:A.t}={}", "B", "{x:A.t}"},
		{"F(P:{}):{x:I}={x:=(1 1)}", "A", "{x:I}"},
		{"F(P:{}):" + tooLarge + "={}", "A", tooLarge},
		{"F(P:{x:Z.t}):{}={}", "A", ""},
		{"F(P:{x:Q.t})(Q:{t}):{}={}", "D A", "{}"},
		{"F(P:{x:Q.t})(Q:{t}):{}={}", "D B", ""},
		{"F(P:{x:P.t;t}):{y:P.t}={}", "D", ""},
		{"F(P:{z:P.t}):{y:P.t}={}", "A", "{y:A.t}"},
		{"F(P:{z:P.t}):{y:P.t}={}", "D", ""},
		{"F(P:" + tooLarge + "):{}={}", "A", ""},
		{"F(P:{x:A.q}):{}={}", "D", ""},
		// The values and types of a parameter that only one of both has.
		{"F(P:{z}):{}={}", "A", ""},
		{"F(P:{t:A.t}):{}={}", "A", ""},
		{"F(P:{q}):{}={}", "A", ""},
	} {
		code := impl.ProgOk
		if test.want == "" {
			code = impl.ProgArgs
		}
		checkMadeSig(t, counter+" D:{x:A.t}", test.functor, test.args, test.want, code)
	}
}

func TestMadeSigArgs(t *testing.T) {
	const scope = "A:{t} B:{t} P:{t} F:{t}"
	for count := 0; count <= 3; count++ {
		functor := "F" + strings.Join(strings.Split("(P:{t}).(Q:{t}).(R:{t})", ".")[:count], "") + ":{x:I}={}"
		for _, arg := range []string{"A", "B", "P", "F"} {
			for given := 0; given <= 20; given++ {
				args := strings.TrimSpace(strings.Repeat(arg+" ", given))
				if given > 0 && given == count {
					checkMadeSig(t, scope, functor, args, "{x:I}", impl.ProgOk)
				} else {
					checkMadeSig(t, scope, functor, args, "", impl.ProgArgs)
				}
			}
		}
	}
	list, f := parsedScope(t, scope), parsedUnit(t, "F(P:{t})(Q:{x:(P.t>Q.t)})(R:{t}):{x:(P.t>(Q.t>R.t))}={}")
	for _, n := range []string{"", "I", "Q", "R", "Z", "a", "t", "AA", "A ", " A", "A.", "@", "É", "\xff", "A\x00", strings.Repeat("A", 1000000)} {
		for at := range 3 {
			args := []string{"A", "B", "A"}
			args[at] = n
			if sig, code := impl.MadeSig(list, f, args); code != impl.ProgArgs || len(sig) != 0 {
				t.Errorf("MadeSig with the argument %.20q = %v, %d", n, sig, code)
			}
		}
	}
	for _, args := range [][]string{make([]string, 1000000), slices.Repeat([]string{"A"}, 1000000)} {
		if sig, code := impl.MadeSig(list, f, args); code != impl.ProgArgs || len(sig) != 0 {
			t.Errorf("MadeSig with very many arguments = %v, %d", sig, code)
		}
	}
}

// TestMadeSigOfInvalidArguments has scopes and units that are not valid, with arguments that fit or do not fit.
func TestMadeSigOfInvalidArguments(t *testing.T) {
	good, scope := parsedUnit(t, someFunctor), parsedScope(t, "A:{t;x:t} B:{t=A.t}")
	if _, code := impl.MadeSig(scope, good, []string{"A", "B"}); code != impl.ProgOk {
		t.Fatalf("MadeSig of valid arguments = %d", code)
	}
	check := func(scope []impl.Import, f impl.Unit) {
		t.Helper()
		for _, args := range [][]string{{"A", "B"}, {"A"}, {"B"}, nil, {""}, {"Z", "Z", "Z"}, {"A", "B", "A", "B"}} {
			if sig, code := impl.MadeSig(scope, f, args); code != impl.ProgInvalid || len(sig) != 0 {
				t.Errorf("MadeSig(%.80s, %.80s, %v) = %v, %d", scopeText(scope), impl.FormatUnit(f), args, sig, code)
			}
		}
	}
	for _, u := range invalidUnits(t) {
		check(scope, u)
		check(nil, u)
	}
	var scopes [][]impl.Import
	for _, s := range invalidSigs() {
		scopes = append(scopes, modules(module("A", s)), modules(module("A", items(abstract("t"), val("x", name("", "t")))), module("B", items(alias("t", name("A", "t")))), module("C", s)))
	}
	for _, text := range []string{"A:{t;x:t} B:{t=A.t} A:{}", "B:{t=A.t} A:{t;x:t}", "A:{t;x:t} B:{t=A.u}", "A:{t;x:t} B:{t=A.t} C:" + tooLarge, "A:{t;x:t} B:{t=A.t} I:{}", "A:{t;x:t} B:{t=A.t} c:{}", "A:{t;x:t} B:{t=A.t} C:{} D:{} E:{} F:{} G:{} H:{} J:{}"} {
		scopes = append(scopes, parsedScope(t, text))
	}
	for _, s := range append(scopes, make([]impl.Import, 1000000)) {
		check(s, good)
		check(s, impl.Unit{Name: "C"})
		check(s, impl.Unit{})
	}
}

func TestProgramScope(t *testing.T) {
	const aliases = counterUnit + "\nH(P:{t=A.t;z:t}):{t=P.t;u=(t>t);z:t;x:(u>A.t)}={t=P.t;u=(t>t);z:=P.z;x:=[u](#0 P.z)}\nB=H(A)\nC=H(B)\n"
	const signatures = "A:{t;z:t;s:(t>t);g:(t>I)} B:{t=A.t;u=(t>t);z:t;x:(u>A.t)} C:{t=B.t;u=(t>t);z:t;x:(u>A.t)}"
	for _, test := range []struct {
		text, want string
		code       int
	}{
		{"main 1\n", "", impl.ProgOk},
		{"main x\n", "", impl.ProgOk},
		{"C:{}={x:=1}\nmain 1\n", "C:{}", impl.ProgOk},
		{"F(P:{}):{}={}\nmain 1\n", "", impl.ProgOk},
		{counterUnit + "\nmain 1\n", "A:{t;z:t;s:(t>t);g:(t>I)}", impl.ProgOk},
		{"C:{}={}\nB:{}={}\nA:{}={}\nmain 1\n", "C:{} B:{} A:{}", impl.ProgOk},
		// Signatures are as they have been given.
		{"C:{t=I;u=(t>t);x:u}={u=(I>I);t=I;x:=[I]#0}\nmain 1\n", "C:{t=I;u=(t>t);x:u}", impl.ProgOk},
		{counterUnit + "\nC:{t=A.t;u=t;x:u}={t=A.t;u=t;x:=A.z}\nmain 1\n", "A:{t;z:t;s:(t>t);g:(t>I)} C:{t=A.t;u=t;x:u}", impl.ProgOk},
		{twiceFunctor + "\n" + counterUnit + "\nB=F(A)\nC=F(B)\nmain 1\n", "A:{t;z:t;s:(t>t);g:(t>I)} B:{t;z:t;s:(t>t);g:(t>I)} C:{t;z:t;s:(t>t);g:(t>I)}", impl.ProgOk},
		{pairFunctor + "\n" + counterUnit + "\nC:{f:(A.t>I)}={f:=A.g}\nB=G(A)(C)\nmain 1\n", "A:{t;z:t;s:(t>t);g:(t>I)} C:{f:(A.t>I)} B:{u=A.t;y:u;x:I}", impl.ProgOk},
		{aliases + "main B.z\n", signatures, impl.ProgOk},
		// The expression need not check, but all declarations must.
		{aliases + "main (1 1)\n", signatures, impl.ProgOk},
		{aliases + "main D.x\n", signatures, impl.ProgOk},
		{aliases + "D:{x:I}={}\nmain 1\n", "", impl.ProgUnit},
		{aliases + "D=G(C)\nmain 1\n", "", impl.ProgFunctor},
		{aliases + "D=H(H)\nmain 1\n", "", impl.ProgArgs},
		{aliases + "D=H(H)\nmain (1 1)\n", "", impl.ProgArgs},
	} {
		checkProgram(t, test.text)
		scope, code := impl.ProgramScope(parsedProgram(t, test.text))
		if code != test.code || scopeText(scope) != test.want || !impl.ScopeValid(scope) {
			t.Errorf("ProgramScope(%q) = %s, %d, want %s, %d", test.text, scopeText(scope), code, test.want, test.code)
		}
	}
}

func TestMainType(t *testing.T) {
	lines := programText(counterUnit, otherCounter, twiceFunctor, "B=F(A)", "C:{t=B.t;u=(t>A.t);x:u}={t=B.t;u=(t>A.t);x:=[t]A.z}")
	for main, want := range map[string]string{
		"1":                             "I",
		"A.z":                           "A.t",
		"B.z":                           "B.t",
		"A.s":                           "(A.t>A.t)",
		"(D.g D.z)":                     "I",
		"[I]A.s":                        "(I>(A.t>A.t))",
		"C.x":                           "(B.t>A.t)",
		"[C.t]#0":                       "(B.t>B.t)",
		"[C.u](#0 B.z)":                 "((B.t>A.t)>A.t)",
		"(C.x B.z)":                     "A.t",
		"?<1,(B.s B.z),B.z>":            "B.t",
		"[A.t][B.t][D.t][(I>C.t)]#3":    "(A.t>(B.t>(D.t>((I>B.t)>A.t))))",
		"(C.x A.z)":                     "",
		"(B.s A.z)":                     "",
		"P.z":                           "",
		"#0":                            "",
		"[" + chainText(8) + "]1":       "",
		"[" + chainText(7) + "]1":       "(" + chainText(7) + ">I)",
		"[" + fullText(6, "C.t") + "]1": "",
	} {
		p := parsedProgram(t, lines+"main "+main+"\n")
		code := impl.ProgOk
		if want == "" {
			code = impl.ProgMain
		}
		if typ, got := impl.MainType(p); got != code || impl.FormatType(typ) != want || want == "" && !zeroType(typ) {
			t.Errorf("MainType of %s = %s, %d, want %s, %d", main, impl.FormatType(typ), got, want, code)
		}
		checkProgram(t, lines+"main "+main+"\n")
	}
}

// memoryProgram has lists with several elements everywhere.
const memoryProgram = "A:{t;u=((t>t)>t);x:t;y:(u>t)}={t=((I>I)>I);u=((t>t)>t);x:=[(I>I)]1;y:=[u]x}\nF(P:{t;u=((t>t)>t);x:t})(Q:{t=P.t;y:((P.t>P.t)>P.t)}):{t=P.t;u=((P.t>t)>t);x:(u>u)}={t=P.t;u=((t>t)>t);x:=[u]#0}\nC:{t=A.t;y:((t>A.t)>t)}={t=A.t;y:=[(t>t)]A.x}\nB=F(A)(C)\nD=F(A)(C)\nmain ?<(1+2),[(B.u>D.u)](#0 [(A.t>A.t)]A.x),[(B.u>D.u)](#0 [(A.t>A.t)]A.x)>\n"

func TestResultsOfProgramsAreNewMemory(t *testing.T) {
	p, kept := parsedProgram(t, memoryProgram), copyProgram(parsedProgram(t, memoryProgram))
	spoilProgram(parsedProgram(t, memoryProgram))
	if !equalPrograms(p, kept) {
		t.Error("results of ParseProgram share memory")
	}
	for i := range p.Decls {
		for _, spoilPart := range []func(d impl.Decl){func(d impl.Decl) { spoilUnit(d.Unit) }, func(d impl.Decl) { spoilNames(d.Args) }} {
			q, want := parsedProgram(t, memoryProgram), copyProgram(kept)
			spoilPart(q.Decls[i])
			spoilPart(want.Decls[i])
			if !equalPrograms(q, want) {
				t.Error("parts of one result of ParseProgram share memory")
			}
		}
	}
	scope, code := impl.ProgramScope(p)
	again, _ := impl.ProgramScope(p)
	keptScope := copyScope(again)
	if code != impl.ProgOk || len(scope) != 4 {
		t.Fatalf("ProgramScope = %s, %d", scopeText(scope), code)
	}
	for i := range scope {
		spoilSig(again[i].Sig)
		for j := range scope {
			if j != i && !equalSigs(again[j].Sig, keptScope[j].Sig) {
				t.Error("signatures of one result of ProgramScope share memory")
			}
		}
		again, _ = impl.ProgramScope(p)
	}
	for i := range scope[:cap(scope)] {
		spoilSig(scope[:cap(scope)][i].Sig)
		scope[:cap(scope)][i] = module("spoiled", nil)
	}
	if !equalScopes(again, keptScope) || !equalPrograms(p, kept) {
		t.Error("results of ProgramScope share memory")
	}
	typ, code := impl.MainType(p)
	other, _ := impl.MainType(p)
	keptType := copyType(other)
	if spoil(typ); code != impl.ProgOk || !equalTypes(other, keptType) || !equalPrograms(p, kept) {
		t.Errorf("results of MainType share memory: %d", code)
	}
	checkMadeMemory(t, keptScope, kept.Decls[1].Unit)
}

// checkMadeMemory checks that the results of MadeSig are new memory, for a functor with two parameters.
func checkMadeMemory(t *testing.T, scope []impl.Import, f impl.Unit) {
	t.Helper()
	keptScope, keptUnit, args := copyScope(scope), copyUnit(f), []string{"A", "C"}
	sig, code := impl.MadeSig(scope, f, args)
	again, _ := impl.MadeSig(scope, f, args)
	kept := copySig(again)
	spoilSig(sig)
	if code != impl.ProgOk || len(kept) != 3 || !equalSigs(again, kept) || !equalScopes(scope, keptScope) || !equalUnits(f, keptUnit) || !slices.Equal(args, []string{"A", "C"}) {
		t.Errorf("results of MadeSig share memory: %d", code)
	}
	for i := range again {
		spoil(again[i].Type)
		for j := range again {
			if j != i && !equalTypes(again[j].Type, kept[j].Type) {
				t.Error("types of one result of MadeSig share memory")
			}
		}
		again, _ = impl.MadeSig(scope, f, args)
	}
}

func TestProgramArgumentsAreNotChanged(t *testing.T) {
	p := parsedProgram(t, memoryProgram)
	p.Decls = append(p.Decls, unitDecl(impl.Unit{Name: "E"}), madeDecl("E", "F", "A"), impl.Decl{})
	args := append(p.Decls[3].Args, "A", "I")
	kept := copyProgram(p)
	scope, _ := impl.ProgramScope(parsedProgram(t, memoryProgram))
	keptScope := copyScope(scope)
	for size := range len(p.Decls) + 1 {
		for count := range len(args) + 1 {
			q := impl.Program{Decls: slices.Clone(p.Decls[:size]), Main: p.Main}
			for i := range q.Decls {
				if q.Decls[i].Made != "" {
					q.Decls[i].Args = args[:count]
				}
			}
			impl.ProgramValid(q)
			impl.ProgramSame(q, p)
			impl.FormatProgram(q)
			impl.CheckProgram(q)
			impl.ProgramScope(q)
			impl.MainType(q)
			impl.MadeSig(scope[:min(size, len(scope))], p.Decls[1].Unit, args[:count])
		}
		impl.CheckProgram(impl.Program{Decls: p.Decls[:size], Main: p.Main})
		impl.ProgramScope(impl.Program{Decls: p.Decls[:size], Main: p.Main})
	}
	if !equalPrograms(p, kept) || !equalScopes(scope, keptScope) || !slices.Equal(args, []string{"A", "C", "A", "I"}) {
		t.Fatalf("an argument has changed: %v, %v, %v", p, scope, args)
	}
}

// TestSharedPrograms has programs of which many parts are the same memory.
func TestSharedPrograms(t *testing.T) {
	u := parsedUnit(t, "A:{t;u=((t>t)>t);x:u}={t=I;u=((t>t)>t);x:=[(t>t)](#0 1)}")
	named := func(n string, params ...impl.Import) impl.Decl {
		return unitDecl(impl.Unit{Name: n, Params: params, Body: u.Body, Face: u.Face})
	}
	args := []string{"A", "B", "C"}
	decls := []impl.Decl{named("A"), named("F", module("P", u.Face), module("Q", u.Face), module("R", u.Face[:1])), named("B"), named("C"), {Made: "J", Functor: "F", Args: args}, {Made: "K", Functor: "F", Args: args}, {Made: "L", Functor: "G", Args: args[:1]}}
	main := sum(number(1), number(2))
	p := program(choice(main, main, main), decls[:6]...)
	sig := "{t;u=((t>t)>t);x:u}"
	if scope, code := impl.ProgramScope(p); code != impl.ProgOk || scopeText(scope) != "A:"+sig+" B:"+sig+" C:"+sig+" J:"+sig+" K:"+sig {
		t.Errorf("ProgramScope = %s, %d", scopeText(scope), code)
	}
	checkProgram(t, impl.FormatProgram(p))
	checkProgram(t, impl.FormatProgram(program(main, decls...)))
	checkProgram(t, impl.FormatProgram(program(main, slices.Concat(decls[1:4], decls[:1], decls[4:])...)))
	if !impl.ProgramSame(p, copyProgram(p)) || impl.ProgramSame(p, program(p.Main, decls[:5]...)) {
		t.Error("ProgramSame is wrong for a program with shared parts")
	}
	checkInvalidProgram(t, program(main, decls[0], decls[0]))
	checkInvalidProgram(t, program(main, slices.Repeat(decls[4:5], 8)...))
}
