package impl

import (
	"slices"
	"strings"
)

// Type is the type of numbers, one of functions, or the name of a type, which may be in a module.
type Type struct {
	Kind int
	Mod  string
	Name string
	Kids []Type
}

// Bind says what a name of a type stands for.
type Bind struct {
	Mod  string
	Name string
	Type Type
}

// Kinds of types, and limits.
const (
	TypeNum      = 1
	TypeFun      = 2
	TypeName     = 3
	MaxTypeDepth = 8
	MaxTypeNodes = 63
)

// LocalName reports whether a text is the name of a type or of a value.
func LocalName(s string) bool {
	return len(s) == 1 && 'a' <= s[0] && s[0] <= 'z'
}

// ModuleName reports whether a text is the name of a module.
func ModuleName(s string) bool {
	return len(s) == 1 && 'A' <= s[0] && s[0] <= 'Z' && s != "I"
}

// TypeValid reports whether t is valid.
func TypeValid(t Type) bool {
	_, ok := readType(t)
	return ok
}

// TypeSame reports whether a and b are equal.
func TypeSame(a Type, b Type) bool {
	return typeComparison().same(a, b)
}

// FormatType returns the text of t.
func FormatType(t Type) string {
	v, ok := readType(t)
	if !ok {
		return ""
	}
	return textOf(v)
}

// ParseType parses the text of a type.
func ParseType(text string) (Type, bool) {
	v, rest, ok := parseType(text, 1)
	if !ok || rest != "" || !withinLimits(v) {
		return Type{}, false
	}
	return v.plain(), true
}

// SubstType replaces names in a type.
func SubstType(t Type, binds []Bind) (Type, bool) {
	v, ok := readType(t)
	if !ok {
		return Type{}, false
	}
	bound, ok := readBinds(binds)
	if !ok {
		return Type{}, false
	}
	result := v.subst(bound)
	if !withinLimits(result) {
		return Type{}, false
	}
	return result.plain(), true
}

// TypeNames returns the names that occur in a type.
func TypeNames(t Type) []Type {
	v, ok := readType(t)
	if !ok {
		return nil
	}
	var names []Type
	v.eachName(once(func(n nameType) { names = append(names, n.plain()) }))
	return names
}

// TypeCount returns the number of nodes of t.
func TypeCount(t Type) int {
	v, ok := readType(t)
	if !ok {
		return 0
	}
	return v.count()
}

// validType is a type whose nodes have been checked. Only the three kinds below implement it.
// It is never changed, so parts of it may be shared; plain makes new memory.
type validType interface {
	depth() int
	count() int
	write(b *strings.Builder)
	eachName(visit func(nameType))
	subst(bound map[nameType]validType) validType
	same(other validType) bool
	plain() Type
}

type numType struct{}

type funType struct{ from, to validType }

// nameType is comparable, so that it can be the key of a map.
type nameType struct{ mod, name string }

func (numType) depth() int  { return 1 }
func (nameType) depth() int { return 1 }
func (f funType) depth() int {
	return 1 + max(f.from.depth(), f.to.depth())
}

func (numType) count() int  { return 1 }
func (nameType) count() int { return 1 }
func (f funType) count() int {
	return 1 + f.from.count() + f.to.count()
}

func (numType) write(b *strings.Builder) { b.WriteByte('I') }

func (n nameType) write(b *strings.Builder) {
	if n.mod != "" {
		b.WriteString(n.mod)
		b.WriteByte('.')
	}
	b.WriteString(n.name)
}

func (f funType) write(b *strings.Builder) {
	b.WriteByte('(')
	f.from.write(b)
	b.WriteByte('>')
	f.to.write(b)
	b.WriteByte(')')
}

func (numType) eachName(visit func(nameType))    {}
func (n nameType) eachName(visit func(nameType)) { visit(n) }
func (f funType) eachName(visit func(nameType)) {
	f.from.eachName(visit)
	f.to.eachName(visit)
}

func (numType) subst(bound map[nameType]validType) validType { return numType{} }

func (n nameType) subst(bound map[nameType]validType) validType {
	if v, ok := bound[n]; ok {
		return v
	}
	return n
}

func (f funType) subst(bound map[nameType]validType) validType {
	return funType{f.from.subst(bound), f.to.subst(bound)}
}

func (numType) same(other validType) bool {
	_, ok := other.(numType)
	return ok
}

func (n nameType) same(other validType) bool {
	o, ok := other.(nameType)
	return ok && n == o
}

func (f funType) same(other validType) bool {
	o, ok := other.(funType)
	return ok && f.from.same(o.from) && f.to.same(o.to)
}

func (numType) plain() Type    { return Type{Kind: TypeNum} }
func (n nameType) plain() Type { return Type{Kind: TypeName, Mod: n.mod, Name: n.name} }
func (f funType) plain() Type {
	return Type{Kind: TypeFun, Kids: []Type{f.from.plain(), f.to.plain()}}
}

func withinLimits(v validType) bool {
	return v.depth() <= MaxTypeDepth && v.count() <= MaxTypeNodes
}

func readType(t Type) (validType, bool) {
	v, ok := readNode(t, 1)
	if !ok || !withinLimits(v) {
		return nil, false
	}
	return v, true
}

// readNode goes no deeper than a valid type, because t may contain itself.
func readNode(t Type, depth int) (validType, bool) {
	if depth > MaxTypeDepth {
		return nil, false
	}
	switch t.Kind {
	case TypeNum:
		return numType{}, t.Mod == "" && t.Name == "" && len(t.Kids) == 0
	case TypeFun:
		return readFun(t, depth)
	case TypeName:
		return nameType{t.Mod, t.Name}, validName(t.Mod, t.Name) && len(t.Kids) == 0
	}
	return nil, false
}

func readFun(t Type, depth int) (validType, bool) {
	if t.Mod != "" || t.Name != "" || len(t.Kids) != 2 {
		return nil, false
	}
	from, ok := readNode(t.Kids[0], depth+1)
	if !ok {
		return nil, false
	}
	to, ok := readNode(t.Kids[1], depth+1)
	return funType{from, to}, ok
}

func readBinds(binds []Bind) (map[nameType]validType, bool) {
	bound := map[nameType]validType{}
	for _, b := range binds {
		name := nameType{b.Mod, b.Name}
		v, ok := readType(b.Type)
		if !ok || !validName(b.Mod, b.Name) {
			return nil, false
		}
		if _, again := bound[name]; !again {
			bound[name] = v
		}
	}
	return bound, true
}

// parseType reads the type at the beginning of text and returns what comes behind it.
// It goes no deeper than a valid type, because the text may be of any length.
func parseType(text string, depth int) (validType, string, bool) {
	if text == "" || depth > MaxTypeDepth {
		return nil, "", false
	}
	switch text[0] {
	case 'I':
		return numType{}, text[1:], true
	case '(':
		return parseFun(text[1:], depth)
	}
	n, rest, ok := parseName(text)
	return n, rest, ok
}

func parseFun(text string, depth int) (validType, string, bool) {
	from, rest, ok := parseType(text, depth+1)
	if !ok || !strings.HasPrefix(rest, ">") {
		return nil, "", false
	}
	to, rest, ok := parseType(rest[1:], depth+1)
	if !ok || !strings.HasPrefix(rest, ")") {
		return nil, "", false
	}
	return funType{from, to}, rest[1:], true
}

func parseName(text string) (nameType, string, bool) {
	mod := ""
	if text != "" && ModuleName(text[:1]) {
		if !strings.HasPrefix(text[1:], ".") {
			return nameType{}, "", false
		}
		mod, text = text[:1], text[2:]
	}
	if text == "" || !LocalName(text[:1]) {
		return nameType{}, "", false
	}
	return nameType{mod, text[:1]}, text[1:], true
}

// validName reports whether a name is a local one, alone or in a module.
func validName(mod, name string) bool {
	return (mod == "" || ModuleName(mod)) && LocalName(name)
}

// texted is what has a text.
type texted interface{ write(b *strings.Builder) }

func textOf(v texted) string {
	var b strings.Builder
	v.write(&b)
	return b.String()
}

// once calls visit for the first of several equal keys only.
func once[K comparable](visit func(K)) func(K) {
	seen := map[K]bool{}
	return func(k K) {
		if !seen[k] {
			seen[k] = true
			visit(k)
		}
	}
}

// comparison compares trees. One that is not valid may be of any depth, and may even contain itself.
// Hence the stack of its own instead of recursion, and the classes, by which nothing is compared again,
// in later comparisons either, which mean something only as long as no difference has been found.
type comparison[N any] struct {
	kids     func(N) []N
	sameNode func(a, b N) bool // without the kids
	classes  listClasses[N]
}

func typeComparison() comparison[Type] {
	kids := func(t Type) []Type { return t.Kids }
	sameNode := func(a, b Type) bool { return a.Kind == b.Kind && a.Mod == b.Mod && a.Name == b.Name }
	return comparison[Type]{kids, sameNode, listClasses[Type]{}}
}

func (c comparison[N]) same(a N, b N) bool {
	type pair struct{ a, b []N }
	work := []pair{{[]N{a}, []N{b}}}
	for len(work) > 0 {
		p := work[len(work)-1]
		work = work[:len(work)-1]
		for i, x := range p.a {
			y := p.b[i]
			next := pair{c.kids(x), c.kids(y)}
			if len(next.a) != len(next.b) || !c.sameNode(x, y) {
				return false
			}
			if c.classes.join(next.a, next.b) {
				work = append(work, next)
			}
		}
	}
	return true
}

// listPlace tells a list from others by where it begins and how long it is.
type listPlace[N any] struct {
	first *N
	size  int
}

// listClasses holds lists that are equal unless a difference is found. Each list points to another one of
// its class, except for one list, which represents the class.
type listClasses[N any] map[listPlace[N]]listPlace[N]

// same compares lists element by element, unless that has been done before: a list may be a part of
// very many others.
func (c listClasses[N]) same(a, b []N, sameElement func(x, y N) bool) bool {
	return len(a) == len(b) && (!c.join(a, b) || slices.EqualFunc(a, b, sameElement))
}

// join puts two lists of the same length in one class, and reports whether they have to be compared.
func (c listClasses[N]) join(a []N, b []N) bool {
	if len(a) == 0 {
		return false
	}
	x := c.find(listPlace[N]{&a[0], len(a)})
	y := c.find(listPlace[N]{&b[0], len(b)})
	if x == y {
		return false
	}
	c[x] = y
	return true
}

// find returns the list that represents the class of l. It shortens the way there for later calls.
func (c listClasses[N]) find(l listPlace[N]) listPlace[N] {
	for {
		up, ok := c[l]
		if !ok {
			return l
		}
		if top, ok := c[up]; ok {
			c[l] = top
		}
		l = up
	}
}
