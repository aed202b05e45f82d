package scope

import (
	"iter"
	"slices"

	"motley/api"
)

// fact is what is known of a node.
type fact struct {
	node    api.Node
	context int        // of an expression, else -1
	pack    string     // the package that holds there
	means   variable   // what it means, with an empty name if it is no variable or one that `my` or `our` brings in
	owns    []variable // what it brings in by `my`
	named   []string   // the variables that it names by `our` or `local`
	astray  bool       // it leaves a loop, but stands in none
}

// place is what holds where a node stands.
type place struct {
	stance
	block *block
	loops []string // the labels of the loops in whose blocks it is, within its sub
	own   bool     // it is right in an NMy with `my` or `our`
}

// walker goes through nodes and tells what is known of them, until it is told to stop.
type walker struct {
	tell    func(number int, f fact) bool
	next    int // the number of the next node
	stopped bool
}

// facts goes through what is known of a program's nodes, by their numbers.
func facts(p []api.Node) iter.Seq2[int, fact] {
	return func(yield func(int, fact) bool) {
		w := walker{tell: yield}
		whole := block{pack: "main", known: map[string]variable{}}
		at := place{stance: stance{context: api.Caller}, block: &whole}
		w.inside(api.Node{Op: api.NBlock, L: p}, at, nil)
	}
}

// node goes through a node and those in it.
func (w *walker) node(n api.Node, at place) {
	if w.stopped {
		return
	}
	brings := brought(n, w.next, at.block)
	w.stopped = !w.tell(w.next, known(n, at, brings))
	w.next++
	switch n.Op {
	case api.NMy:
		at.block.pending = append(at.block.pending, brings...)
	case api.NPackage:
		at.block.pack = n.S
	}
	w.inside(n, at, brings)
	if isStatement(n) {
		at.block.settle()
	}
}

// inside goes through the parts of a node, which brings in names.
func (w *walker) inside(n api.Node, at place, brings []entry) {
	parts(n, at.stance, func(x api.Node, s stance) {
		in := at
		in.stance = s
		in.own = n.Op == api.NMy && n.S != "local"
		if x.Op == api.NBlock {
			in.loops = around(n, at.loops)
			// What a condition or a list has brought in is known from the block on; a block in an expression is none such.
			if isStatement(n) {
				at.block.settle()
			}
			in.block = at.block.inner()
			in.block.learn(brings)
		}
		w.node(x, in)
	})
}

// around returns the labels of the loops around what is in the block of a node, around which there are some.
func around(n api.Node, loops []string) []string {
	switch n.Op {
	case api.NWhile, api.NFor:
		return append(slices.Clone(loops), n.T)
	case api.NDefine, api.NSub, api.NPhase:
		return nil
	}
	return loops
}

func isStatement(n api.Node) bool { return n.Op >= api.NExpr }

// known returns what is known of a node that brings in names.
func known(n api.Node, at place, brings []entry) fact {
	f := fact{node: n, context: at.context, pack: at.block.pack}
	if isStatement(n) {
		f.context = -1
	}
	if name := named(n); name != "" && !at.own {
		f.means = at.block.meaning(name)
	}
	for _, x := range brings {
		if x.means.number < 0 {
			f.named = append(f.named, x.means.name)
		} else {
			f.owns = append(f.owns, x.means)
		}
	}
	if n.Op == api.NMy && n.S == "local" {
		for _, name := range localized(n.L[0]) {
			f.named = append(f.named, at.block.meaning(name).name)
		}
	}
	f.astray = n.Op == api.NLeave && !leaves(n, at.loops)
	return f
}

// leaves reports whether an NLeave leaves one of the loops with some labels.
func leaves(n api.Node, loops []string) bool {
	if n.T == "" {
		return len(loops) > 0
	}
	return slices.Contains(loops, n.T)
}
