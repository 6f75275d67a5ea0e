package tests

import (
	"math/rand"
	"slices"
	"strings"
	"testing"

	"loop.example/modlink/impl"
)

// matchTexts decides by replacements in texts what two valid signatures should give: a code, the index
// of the first item that is not offered or -1, and the binds like "t=I u=(I>I)", if there are any.
func matchTexts(have, want string) (code, index int, binds string, ok bool) {
	have, want = normalText(have), normalText(want)
	if !smallTypes(have) || !smallTypes(want) {
		return impl.MatchLarge, -1, "", false
	}
	offered := offeredTexts(have)
	code, index = firstNotOffered(offered, want)
	var list []string
	for _, part := range splitSig(want) {
		if n, sep, _ := splitItem(part); sep == "" {
			if offered[n+"="] == "" {
				return code, index, "", false
			}
			list = append(list, n+"="+offered[n+"="])
		}
	}
	return code, index, strings.Join(list, " "), true
}

// smallTypes reports whether all types in the text of a normal signature are within the limits.
func smallTypes(text string) bool {
	for _, part := range splitSig(text) {
		if _, sep, typ := splitItem(part); sep != "" && !smallType(typ) {
			return false
		}
	}
	return true
}

func smallType(text string) bool {
	_, ok := impl.ParseType(text)
	return ok
}

// offeredTexts maps a name with "=" to the text of a type, and one with ":" to that of a value's type.
func offeredTexts(normal string) map[string]string {
	offered := map[string]string{}
	for _, part := range splitSig(normal) {
		n, sep, typ := splitItem(part)
		if sep == "" {
			sep, typ = "=", n
		}
		offered[n+sep] = typ
	}
	return offered
}

func firstNotOffered(offered map[string]string, want string) (code, index int) {
	stands := map[string]string{}
	for i, part := range splitSig(want) {
		n, sep, typ := splitItem(part)
		found, ok := offered[n+sep]
		if sep == "" {
			found, ok = offered[n+"="]
			typ, stands[n] = n, found
		}
		typ = replaceTokens(typ, stands)
		switch {
		case !ok:
			return impl.MatchMissing, i
		case typ == found:
			continue
		case !smallType(typ):
			return impl.MatchLarge, i
		case sep == "=":
			return impl.MatchType, i
		}
		return impl.MatchValue, i
	}
	return impl.MatchOk, -1
}

// checkMatch compares the functions that match two valid signatures with matchTexts, and returns the code.
func checkMatch(t *testing.T, have, want string) int {
	t.Helper()
	h, w := parsedSig(t, have), parsedSig(t, want)
	code, index, binds, bindsOk := matchTexts(have, want)
	if got := impl.MatchSig(h, w); got != code {
		t.Fatalf("MatchSig(%s, %s) = %d, want %d", have, want, got, code)
	}
	checkFirst(t, h, w, index)
	got, ok := impl.MatchBinds(h, w)
	if ok != bindsOk || bindsText(got) != binds {
		t.Fatalf("MatchBinds(%s, %s) = %v, %v, want %s", have, want, got, ok, binds)
	}
	return code
}

// checkFirst checks FirstMismatch, where -1 means that there is none.
func checkFirst(t *testing.T, have, want []impl.SigItem, index int) {
	t.Helper()
	got, ok := impl.FirstMismatch(have, want)
	if ok != (index >= 0) || got != max(index, 0) {
		t.Fatalf("FirstMismatch(%s, %s) = %d, %v, want %d", impl.FormatSig(have), impl.FormatSig(want), got, ok, index)
	}
}

// bindsText returns binds like "t=I u=(I>I)".
func bindsText(binds []impl.Bind) string {
	var list []string
	for _, b := range binds {
		n := b.Name
		if b.Mod != "" {
			n = b.Mod + "." + n
		}
		list = append(list, n+"="+impl.FormatType(b.Type))
	}
	return strings.Join(list, " ")
}

// weakerText makes from the text of a signature one that it matches by what the document says: with
// fewer items, abstract types for aliases, and another order.
func weakerText(random *rand.Rand, text string) string {
	if normal := normalText(text); random.Intn(2) > 0 && smallTypes(normal) {
		text = normal
	}
	parts := splitSig(text)
	for i := len(parts) - 1; i >= 0; i-- {
		n, sep, _ := splitItem(parts[i])
		switch {
		case random.Intn(4) > 0:
		case sep == ":" || !slices.ContainsFunc(parts[i+1:], func(p string) bool { return usesType(p, n) }):
			parts = slices.Delete(parts, i, i+1)
		case sep == "=":
			parts[i] = n
		}
	}
	return "{" + strings.Join(shuffledParts(random, parts), ";") + "}"
}

func usesType(part, n string) bool {
	_, _, typ := splitItem(part)
	return typ != replaceTokens(typ, map[string]string{n: "used"})
}

// shuffledParts swaps neighbours of which the second one does not use the first one.
func shuffledParts(random *rand.Rand, parts []string) []string {
	for range 3 * len(parts) {
		i := 1 + random.Intn(len(parts))
		if i == len(parts) {
			continue
		}
		n, sep, _ := splitItem(parts[i-1])
		if sep == ":" || !usesType(parts[i], n) {
			parts[i-1], parts[i] = parts[i], parts[i-1]
		}
	}
	return parts
}

// changedText gives one item of the text of a signature another type.
func changedText(random *rand.Rand, text string) string {
	parts := splitSig(text)
	if len(parts) == 0 {
		return text
	}
	at := random.Intn(len(parts))
	types := ""
	for _, part := range parts[:at] {
		if n, sep, _ := splitItem(part); sep != ":" {
			types += n
		}
	}
	n, sep, _ := splitItem(parts[at])
	if sep == "" {
		sep = "="
	}
	parts[at] = n + sep + smallTypeText(random, types, 4)
	return "{" + strings.Join(parts, ";") + "}"
}

// smallTypeText makes the text of a type that is within the limits.
func smallTypeText(random *rand.Rand, types string, depth int) string {
	for {
		if typ := randomTypeText(random, types, depth); smallType(typ) {
			return typ
		}
	}
}

// smallSigTexts lists the texts of all signatures that have at most so many of these items.
func smallSigTexts(list []string, most int) []string {
	var texts []string
	var visit func(parts []string)
	visit = func(parts []string) {
		text := "{" + strings.Join(parts, ";") + "}"
		if !isSigText(text) {
			return
		}
		texts = append(texts, text)
		if len(parts) == most {
			return
		}
		for _, part := range list {
			visit(append(slices.Clone(parts), part))
		}
	}
	visit(nil)
	return texts
}
