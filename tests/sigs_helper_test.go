package tests

import (
	"math/rand"
	"strings"
	"testing"

	"loop.example/modlink/impl"
)

func abstract(local string) impl.SigItem {
	return impl.SigItem{Kind: impl.SigAbstract, Name: local}
}

func alias(local string, t impl.Type) impl.SigItem {
	return impl.SigItem{Kind: impl.SigAlias, Name: local, Type: t}
}

func val(local string, t impl.Type) impl.SigItem {
	return impl.SigItem{Kind: impl.SigVal, Name: local, Type: t}
}

func items(list ...impl.SigItem) []impl.SigItem { return list }

func parsedSig(t *testing.T, text string) []impl.SigItem {
	t.Helper()
	s, ok := impl.ParseSig(text)
	if !ok {
		t.Fatalf("ParseSig rejects %q", text)
	}
	return s
}

// equalSigs compares signatures without the help of the program.
func equalSigs(a, b []impl.SigItem) bool {
	if len(a) != len(b) {
		return false
	}
	for i := range a {
		if a[i].Kind != b[i].Kind || a[i].Name != b[i].Name || !equalTypes(a[i].Type, b[i].Type) {
			return false
		}
	}
	return true
}

func copySig(s []impl.SigItem) []impl.SigItem {
	var c []impl.SigItem
	for _, x := range s {
		c = append(c, impl.SigItem{Kind: x.Kind, Name: x.Name, Type: copyType(x.Type)})
	}
	return c
}

// spoilSig changes all memory that a signature reaches, including unused capacity.
func spoilSig(s []impl.SigItem) {
	s = s[:cap(s)]
	for i := range s {
		spoil(s[i].Type)
		s[i] = impl.SigItem{Kind: 77, Name: "spoiled"}
	}
}

// splitItem splits the text of an item into its name, its separator and its type.
func splitItem(item string) (name, sep, typ string) {
	at := strings.IndexAny(item, "=:")
	if at < 0 {
		return item, "", ""
	}
	return item[:at], item[at : at+1], item[at+1:]
}

// splitSig returns the texts of the items of a text that begins and ends like a signature.
func splitSig(text string) []string {
	inner := text[1 : len(text)-1]
	if inner == "" {
		return nil
	}
	return strings.Split(inner, ";")
}

// isSigText decides what ParseSig should accept by splitting the text.
func isSigText(text string) bool {
	if len(text) < 2 || !strings.HasPrefix(text, "{") || !strings.HasSuffix(text, "}") {
		return false
	}
	parts := splitSig(text)
	types, vals := "", ""
	for _, part := range parts {
		n, sep, typ := splitItem(part)
		if len(n) != 1 || n < "a" || n > "z" {
			return false
		}
		if sep != "" && !isTypeOver(typ, types) {
			return false
		}
		defined := &types
		if sep == ":" {
			defined = &vals
		}
		if strings.Contains(*defined, n) {
			return false
		}
		*defined += n
	}
	return len(parts) <= 8
}

// isTypeOver reports whether a text is that of a type that uses only these names without a module.
func isTypeOver(text, known string) bool {
	t, ok := impl.ParseType(text)
	if !ok {
		return false
	}
	for _, n := range impl.TypeNames(t) {
		if n.Mod == "" && !strings.Contains(known, n.Name) {
			return false
		}
	}
	return true
}

// normalText returns the text of a signature in which aliases are replaced; it grows without limits.
func normalText(text string) string {
	known := map[string]string{}
	var result []string
	for _, part := range splitSig(text) {
		n, sep, typ := splitItem(part)
		typ = replaceTokens(typ, known)
		if sep == "=" {
			known[n] = typ
		}
		result = append(result, n+sep+typ)
	}
	return "{" + strings.Join(result, ";") + "}"
}

// replaceTokens replaces names without a module in the text of a type.
func replaceTokens(text string, known map[string]string) string {
	var result strings.Builder
	for i := range len(text) {
		token := text[i : i+1]
		if to, ok := known[token]; ok && (i == 0 || text[i-1] != '.') {
			token = to
		}
		result.WriteString(token)
	}
	return result.String()
}

// randomSigText makes the text of a signature with names from t to w and few types that are large.
func randomSigText(random *rand.Rand) string {
	var parts []string
	types, vals := "", ""
	for range random.Intn(9) {
		n := string("tuvw"[random.Intn(4)])
		kind := random.Intn(3)
		if kind < 2 && strings.Contains(types, n) || kind == 2 && strings.Contains(vals, n) {
			continue
		}
		switch kind {
		case 0:
			parts = append(parts, n)
		case 1:
			parts = append(parts, n+"="+randomTypeText(random, types, 4))
		case 2:
			parts = append(parts, n+":"+randomTypeText(random, types, 4))
			vals += n
		}
		if kind < 2 {
			types += n
		}
	}
	return "{" + strings.Join(parts, ";") + "}"
}

func randomTypeText(random *rand.Rand, types string, depth int) string {
	if depth > 1 && random.Intn(2) > 0 {
		return "(" + randomTypeText(random, types, depth-1) + ">" + randomTypeText(random, types, depth-1) + ")"
	}
	if types != "" && random.Intn(3) > 0 {
		return string(types[random.Intn(len(types))])
	}
	return []string{"I", "A.t", "A.u", "B.t"}[random.Intn(4)]
}
