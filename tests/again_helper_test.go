package tests

import (
	"math/rand"
	"slices"
	"strconv"
	"strings"
	"testing"

	"loop.example/modlink/impl"
)

// declTexts is what is known by the text of a line about the declaration in it.
type declTexts struct {
	line, name, kind string
	seen             string
	uses, seenUses   []string
}

func splitDecl(line string) declTexts {
	if made, functor, args, ok := splitMade(line); ok {
		uses := slices.Compact(slices.Sorted(slices.Values(append(args, functor))))
		return declTexts{line, made, "made", line, uses, uses}
	}
	u, _ := splitUnit(line)
	bare := u
	bare.body = "{}"
	kind := "module"
	if len(u.params) > 0 {
		kind = "functor"
	}
	return declTexts{line, u.name, kind, bare.String(), usesInText(u), usesInText(bare)}
}

func splitDecls(text string) []declTexts {
	lines := programLines(text)
	var list []declTexts
	for _, line := range lines[:len(lines)-1] {
		list = append(list, splitDecl(line))
	}
	return list
}

// changeTexts is what is known by texts about a program and an older one.
type changeTexts struct {
	same  bool
	dirty []string
	set   []int
}

// compareTexts compares the texts of two valid programs line by line.
func compareTexts(old, now string) changeTexts {
	before, behind := splitDecls(old), splitDecls(now)
	r := changeTexts{same: slices.EqualFunc(before, behind, func(a, b declTexts) bool { return a.name == b.name && a.kind == b.kind })}
	isDirty := func(n string) bool { return slices.Contains(r.dirty, n) }
	for i, d := range behind {
		if r.same && (d.seen != before[i].seen || slices.ContainsFunc(d.seenUses, isDirty)) {
			r.dirty = append(r.dirty, d.name)
		}
	}
	for i, d := range behind {
		if !r.same || d.line != before[i].line || slices.ContainsFunc(d.uses, isDirty) {
			r.set = append(r.set, i)
		}
	}
	return r
}

// checkChange compares all functions, for the texts of two valid programs, with what follows from the texts.
func checkChange(t *testing.T, old, now string) changeTexts {
	t.Helper()
	want := compareTexts(old, now)
	p, q := parsedProgram(t, old), parsedProgram(t, now)
	checkChangeResults(t, p, q, want)
	code, at := checkTexts(now).result()
	checkAgainResult(t, p, q, code, at)
	for i, d := range splitDecls(now) {
		checkDeclUses(t, q.Decls[i], d.uses...)
	}
	return want
}

// result returns what CheckProgram should return.
func (r checkedTexts) result() (int, int) { return r.code, r.at }

func checkChangeResults(t *testing.T, old, now impl.Program, want changeTexts) {
	t.Helper()
	if got := impl.SameNames(old, now); got != want.same {
		t.Fatalf("SameNames(%q, %q) = %v", impl.FormatProgram(old), impl.FormatProgram(now), got)
	}
	if got := impl.DirtyNames(old, now); !slices.Equal(got, want.dirty) {
		t.Fatalf("DirtyNames(%q, %q) = %v, want %v", impl.FormatProgram(old), impl.FormatProgram(now), got, want.dirty)
	}
	if got := impl.RecheckSet(old, now); !slices.Equal(got, want.set) {
		t.Fatalf("RecheckSet(%q, %q) = %v, want %v", impl.FormatProgram(old), impl.FormatProgram(now), got, want.set)
	}
}

// checkAgainResult checks promise 10 for two programs, the second of which has these results of CheckProgram.
func checkAgainResult(t *testing.T, old, now impl.Program, code, at int) {
	t.Helper()
	if got, where := impl.CheckAgain(old, now); got != code || where != at {
		t.Fatalf("CheckAgain(%.800q, %.800q) = %d, %d, want %d, %d", impl.FormatProgram(old), impl.FormatProgram(now), got, where, code, at)
	}
	if got, where := impl.CheckProgram(now); got != code || where != at {
		t.Fatalf("CheckProgram(%.800q) = %d, %d, want %d, %d", impl.FormatProgram(now), got, where, code, at)
	}
}

func checkDeclUses(t *testing.T, d impl.Decl, want ...string) {
	t.Helper()
	if got := impl.DeclUses(d); !slices.Equal(got, want) {
		t.Errorf("DeclUses(%.300q) = %v, want %v", impl.FormatProgram(program(number(1), d)), got, want)
	}
}

// indices returns the numbers from 0 on.
func indices(count int) []int {
	var list []int
	for i := range count {
		list = append(list, i)
	}
	return list
}

// setText returns numbers like "0 2 3".
func setText(set []int) string {
	var parts []string
	for _, i := range set {
		parts = append(parts, strconv.Itoa(i))
	}
	return strings.Join(parts, " ")
}

// changedKeepingNames changes one of the lines of a program, so that it mostly still defines the same name in the
// same way.
func changedKeepingNames(random *rand.Rand, text string) string {
	lines := programLines(text)
	i := random.Intn(len(lines))
	u, ok := splitUnit(lines[i])
	switch {
	case i == len(lines)-1:
		e, _ := impl.ParseExpr(strings.TrimPrefix(lines[i], "main "))
		changeLeaf(random, &e, newTextChecker(checkTexts(text).scope))
		lines[i] = "main " + impl.FormatExpr(e)
	case isMadeText(lines[i]):
		at := 4 + 3*random.Intn((len(lines[i])-3)/3)
		lines[i] = lines[i][:at] + lines[random.Intn(len(lines))][:1] + lines[i][at+1:]
	case ok:
		lines[i] = changedSameUnit(random, text, i, u).String()
	}
	return programText(lines...)
}

// changedSameUnit changes the body or the signature of a unit, or both, or the signature of a parameter.
func changedSameUnit(random *rand.Rand, text string, at int, u unitTexts) unitTexts {
	known := checkTexts(programText(append(slices.Clone(programLines(text)[:at]), "main 1")...))
	c := newTextChecker(u.longer(known.scope))
	switch kind := random.Intn(6); {
	case kind < 2 && known.code == impl.ProgOk:
		if body := otherBody(random, c, u.face); isStructText(body) {
			u.body = body
		}
	case kind == 2:
		u.face = weakerText(random, u.face)
	case kind == 3:
		u.face = changedText(random, u.face)
	case kind == 4 && len(u.params) > 0:
		i := random.Intn(len(u.params))
		u.params = slices.Clone(u.params)
		u.params[i] = u.params[i][:2] + changedText(random, u.params[i][2:])
	default:
		u.body = changedBodyText(random, u.longer(known.scope), u.body)
	}
	return u
}
