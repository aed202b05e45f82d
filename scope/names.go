package scope

import (
	"strings"

	"motley/api"
)

// freeNames has the names, each of one byte, that are of no package.
const freeNames = "_@&123456789"

// variable is what a name means: one that `my` brings in, or that of a package or of none.
type variable struct {
	name   string // with its sigil, and that of a package with the package
	number int    // of the node that brings it in by `my`, or -1
	part   int    // its place among the variables that this node brings in
}

// isOwn reports whether `my` brings in a variable, and whether there is one at all.
func (v variable) isOwn() bool { return v.name != "" && v.number >= 0 }

// entry is a name, with its sigil, and what it means where it is known.
type entry struct {
	name  string
	means variable
}

// block is what holds in a block behind the statements that were gone through so far.
type block struct {
	around  *block // nil for the program itself
	pack    string
	known   map[string]variable
	pending []entry // names that are known from behind the statement on
}

// inner returns a block within a block.
func (b *block) inner() *block {
	return &block{around: b, pack: b.pack, known: map[string]variable{}}
}

// learn makes names known in a block, where a later one hides an earlier one.
func (b *block) learn(l []entry) {
	for _, x := range l {
		b.known[x.name] = x.means
	}
}

// settle makes the names known that the statement has brought in so far.
func (b *block) settle() {
	b.learn(b.pending)
	b.pending = nil
}

// meaning returns what a name means in a block.
func (b *block) meaning(name string) variable {
	for at := b; at != nil; at = at.around {
		if v, ok := at.known[name]; ok {
			return v
		}
	}
	return variable{name: b.whole(name), number: -1}
}

// whole returns the name of the variable of the package, or of none, that a name means.
func (b *block) whole(name string) string {
	sigil, word := name[:1], name[1:]
	if len(word) == 1 && strings.Contains(freeNames, word) || strings.Contains(word, "::") {
		return name
	}
	return sigil + b.pack + "::" + word
}

// named returns the name of a variable's node with its sigil, or an empty text for other nodes.
func named(n api.Node) string {
	switch n.Op {
	case api.NScalar:
		return "$" + n.S
	case api.NArray:
		return "@" + n.S
	case api.NHash:
		return "%" + n.S
	}
	return ""
}

// brought returns the names that a node with a number brings in by `my` or `our`, where a block is around it.
func brought(n api.Node, number int, b *block) []entry {
	if n.Op == api.NFor && n.N == 1 {
		name := "$" + n.S
		return []entry{{name, variable{name, number, 0}}}
	}
	if n.Op != api.NMy || n.S == "local" {
		return nil
	}
	var l []entry
	for i, x := range n.L {
		name := named(x)
		if n.S == "our" {
			l = append(l, entry{name, variable{b.whole(name), -1, 0}})
			continue
		}
		l = append(l, entry{name, variable{name, number, i}})
	}
	return l
}

// localized returns the names of the variables that are local, wholly or in part, by a `local` of a node.
func localized(n api.Node) []string {
	switch n.Op {
	case api.NList:
		var l []string
		for _, x := range n.L {
			l = append(l, localized(x)...)
		}
		return l
	case api.NIndex, api.NKey, api.NSlice, api.NKeys:
		return localized(n.L[0])
	}
	if name := named(n); name != "" {
		return []string{name}
	}
	return nil
}
