package tests

import (
	"math/rand"
	"slices"
	"strings"
	"testing"

	"loop.example/modlink/impl"
)

// choicesOf returns all texts that take one of the choices for each line.
func choicesOf(lines [][]string) []string {
	texts := []string{""}
	for _, choices := range lines {
		var longer []string
		for _, text := range texts {
			for _, c := range choices {
				longer = append(longer, text+c+"\n")
			}
		}
		texts = longer
	}
	return texts
}

// TestAllChangesOfSomePrograms has all pairs of programs that are made of some choices for each line.
func TestAllChangesOfSomePrograms(t *testing.T) {
	texts := choicesOf([][]string{
		{"A:{t;z:t}={t=I;z:=0}", "A:{t;z:t}={t=(I>I);z:=[I]1}", "A:{t=I;z:t}={t=I;z:=0}", "A:{z:I}={z:=0}"},
		{"F(P:{t;z:t}):{y:P.t}={y:=P.z}", "F(P:{t;z:t}):{u;y:u}={u=P.t;x:=A.z;y:=P.z}", "F(P:{t=A.t;z:t}):{y:A.t}={y:=P.z}"},
		{"B=F(A)", "B=F(B)"},
		{"C:{}={x:=B.y}", "C:{w:A.t}={w:=B.y}"},
		{"main C.w", "main (A.z+1)"},
	})
	results := map[string]checkedTexts{}
	var programs []impl.Program
	for _, text := range texts {
		results[text] = checkTexts(text)
		programs = append(programs, parsedProgram(t, text))
	}
	codes, sizes := map[int]int{}, map[int]int{}
	for i, old := range texts {
		for j, now := range texts {
			want := compareTexts(old, now)
			checkChangeResults(t, programs[i], programs[j], want)
			r := results[now]
			if code, at := impl.CheckAgain(programs[i], programs[j]); code != r.code || at != r.at {
				t.Fatalf("CheckAgain(%q, %q) = %d, %d, want %d, %d", old, now, code, at, r.code, r.at)
			}
			if results[old].code == impl.ProgOk {
				codes[r.code]++
				sizes[len(want.set)]++
			}
		}
	}
	checkCodes(t, codes, impl.ProgOk, impl.ProgUnit, impl.ProgArgs, impl.ProgMain)
	for size := 1; size <= 4; size++ {
		if sizes[size] < 20 {
			t.Errorf("%d declarations are checked again %d times", size, sizes[size])
		}
	}
}

// TestRandomChanges compares all functions with what follows from the texts, for random programs and one or more
// changes of them.
func TestRandomChanges(t *testing.T) {
	random := rand.New(rand.NewSource(51))
	codes, oldCodes, dirty, kept, others, invalid := map[int]int{}, map[int]int{}, map[int]int{}, 0, 0, 0
	for range 900 {
		old := randomProgram(random, 8)
		if changed := changedKeepingNames(random, old); random.Intn(3) == 0 && isProgramText(changed) {
			old = changed
		}
		oldCode := checkTexts(old).code
		for range 5 {
			now := old
			for range 1 + random.Intn(3) {
				changed := changedKeepingNames(random, now)
				if random.Intn(12) == 0 {
					changed = changedProgram(random, now)
				}
				if isProgramText(changed) {
					now = changed
				} else if invalid++; random.Intn(2) == 0 {
					break
				}
			}
			r := checkChange(t, old, now)
			checkChange(t, now, old)
			if !r.same {
				others++
				continue
			}
			oldCodes[oldCode]++
			if oldCode == impl.ProgOk && old != now {
				codes[checkTexts(now).code]++
				dirty[min(len(r.dirty), 2)]++
				kept += strings.Count(now, "\n") - 1 - len(r.set)
			}
		}
	}
	checkCodes(t, codes, impl.ProgOk, impl.ProgUnit, impl.ProgArgs, impl.ProgMain)
	checkCodes(t, oldCodes, impl.ProgOk, impl.ProgUnit, impl.ProgMain)
	checkCodes(t, dirty, 0, 1, 2)
	if kept < 4000 || others < 100 || invalid < 100 {
		t.Errorf("%d declarations need not be checked again, %d changes do not keep the names, %d are no programs", kept, others, invalid)
	}
}

// TestWhatIsNotCheckedAgainChecks checks promise 10 without CheckAgain: if the old program checks, a declaration that
// is not in RecheckSet checks as soon as those before it do, and a module that is not dirty has its old signature.
func TestWhatIsNotCheckedAgainChecks(t *testing.T) {
	random := rand.New(rand.NewSource(52))
	kept, behind, made := 0, 0, 0
	for range 4000 {
		old := linkableProgram(random)
		now := old
		for range 1 + random.Intn(2) {
			if changed := changedKeepingNames(random, now); isProgramText(changed) {
				now = changed
			}
		}
		p, q := parsedProgram(t, old), parsedProgram(t, now)
		set, dirty := impl.RecheckSet(p, q), impl.DirtyNames(p, q)
		scope, _ := impl.ProgramScope(p)
		for i, d := range q.Decls {
			before, code := impl.ProgramScope(impl.Program{Decls: q.Decls[:i], Main: number(1)})
			if code != impl.ProgOk {
				break
			}
			if slices.Contains(set, i) {
				continue
			}
			if kept++; len(set) > 0 && set[0] < i {
				behind++
			}
			if d.Made != "" {
				made++
			}
			if code := checkDecl(q.Decls[:i], d, before); code != impl.ProgOk {
				t.Fatalf("declaration %d is not checked again from %q to %q, but gives %d", i, old, now, code)
			}
		}
		again, code := impl.ProgramScope(q)
		for i, m := range again {
			if code == impl.ProgOk && !slices.Contains(dirty, m.Name) && (m.Name != scope[i].Name || !equalSigs(m.Sig, scope[i].Sig)) {
				t.Fatalf("%s is not dirty from %q to %q, but its signature is %s", m.Name, old, now, impl.FormatSig(m.Sig))
			}
		}
	}
	if kept < 5000 || behind < 2000 || made < 1000 {
		t.Errorf("%d declarations are not checked again, %d of them behind one that is, %d are made by functors", kept, behind, made)
	}
}

// TestBodiesAloneAreCheckedAgain replaces bodies by others that offer as much: then, nothing else is checked again,
// and the results stay.
func TestBodiesAloneAreCheckedAgain(t *testing.T) {
	random := rand.New(rand.NewSource(53))
	replaced, functors := 0, 0
	for range 2000 {
		text := randomProgram(random, 6)
		p, r := parsedProgram(t, text), checkTexts(text)
		if r.code != impl.ProgOk {
			continue
		}
		q := copyProgram(p)
		var set []int
		for i, d := range p.Decls {
			changed, ok := otherUnit(random, p.Decls[:i], d)
			if !ok || random.Intn(3) == 0 {
				continue
			}
			q.Decls[i].Unit = changed
			set = append(set, i)
			if replaced++; len(changed.Params) > 0 {
				functors++
			}
		}
		checkChangeResults(t, p, q, changeTexts{same: true, set: set})
		checkAgainResult(t, p, q, impl.ProgOk, len(q.Decls))
	}
	if replaced < 1000 || functors < 200 {
		t.Errorf("%d bodies have been replaced, %d of functors", replaced, functors)
	}
}
