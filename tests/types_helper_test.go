package tests

import (
	"strings"
	"testing"

	"loop.example/modlink/impl"
)

var num = impl.Type{Kind: impl.TypeNum}

func name(mod, local string) impl.Type {
	return impl.Type{Kind: impl.TypeName, Mod: mod, Name: local}
}

func fun(from, to impl.Type) impl.Type {
	return impl.Type{Kind: impl.TypeFun, Kids: []impl.Type{from, to}}
}

// chain is a type of the given depth that nests on the left or on the right.
func chain(depth int, left bool, leaf impl.Type) impl.Type {
	t := leaf
	for range depth - 1 {
		if left {
			t = fun(t, num)
		} else {
			t = fun(num, t)
		}
	}
	return t
}

// full is a type of the given depth with as many nodes as possible.
func full(depth int, leaf impl.Type) impl.Type {
	if depth == 1 {
		return leaf
	}
	return fun(full(depth-1, leaf), full(depth-1, leaf))
}

// sharedType has two to the power of levels leaves, of which most are the same memory.
func sharedType(levels int, leaf impl.Type) impl.Type {
	for range levels {
		leaf = fun(leaf, leaf)
	}
	return leaf
}

func fullText(depth int, leaf string) string {
	if depth == 1 {
		return leaf
	}
	return "(" + fullText(depth-1, leaf) + ">" + fullText(depth-1, leaf) + ")"
}

func parsed(t *testing.T, text string) impl.Type {
	t.Helper()
	x, ok := impl.ParseType(text)
	if !ok {
		t.Fatalf("ParseType rejects %q", text)
	}
	return x
}

// parsedBinds reads binds like "t=I A.u=(I>t)".
func parsedBinds(t *testing.T, text string) []impl.Bind {
	t.Helper()
	var binds []impl.Bind
	for _, one := range strings.Fields(text) {
		left, right, _ := strings.Cut(one, "=")
		n := parsed(t, left)
		binds = append(binds, impl.Bind{Mod: n.Mod, Name: n.Name, Type: parsed(t, right)})
	}
	return binds
}

// equalTypes compares types without the help of the program.
func equalTypes(a, b impl.Type) bool {
	if a.Kind != b.Kind || a.Mod != b.Mod || a.Name != b.Name || len(a.Kids) != len(b.Kids) {
		return false
	}
	for i := range a.Kids {
		if !equalTypes(a.Kids[i], b.Kids[i]) {
			return false
		}
	}
	return true
}

func zeroType(t impl.Type) bool { return equalTypes(t, impl.Type{}) }

func copyType(t impl.Type) impl.Type {
	c := t
	c.Kids = nil
	for _, k := range t.Kids {
		c.Kids = append(c.Kids, copyType(k))
	}
	return c
}

// spoil changes all memory that a type reaches, including unused capacity.
func spoil(t impl.Type) {
	kids := t.Kids[:cap(t.Kids)]
	for i := range kids {
		spoil(kids[i])
		kids[i] = impl.Type{Kind: 77, Mod: "spoiled"}
	}
}
