package show

import "motley/api"

// place writes a variable, or what is in one.
func (w *writer) place(n api.Node) {
	switch n.Op {
	case api.NMy:
		w.own(n)
	case api.NScalar:
		w.write("$", n.S)
	case api.NArray:
		w.write("@", n.S)
	case api.NHash:
		w.write("%", n.S)
	case api.NIndex:
		w.container(n.L[0])
		w.write("[")
		w.expr(n.L[1])
		w.write("]")
	case api.NKey:
		w.container(n.L[0])
		w.write("{")
		w.key(n.L[1])
		w.write("}")
	case api.NSlice:
		w.several(n.L[0])
		w.write("[")
		w.places(n.L[1])
		w.write("]")
	case api.NKeys:
		w.several(n.L[0])
		w.write("{")
		w.places(n.L[1])
		w.write("}")
	case api.NDeref:
		w.referred(n.S, n)
	}
}

// own writes variables that are brought in, or what is local.
func (w *writer) own(n api.Node) {
	w.write(n.S, " ")
	if n.N == 1 {
		w.list(n.L)
		return
	}
	w.expr(n.L[0])
}

// referred writes what is referred to, with a sigil.
func (w *writer) referred(sigil string, n api.Node) {
	w.write(sigil, "{")
	defer w.write("}")
	w.expr(n.L[0])
}

// container writes the array or hash of which an element is.
func (w *writer) container(n api.Node) {
	if n.Op == api.NDeref {
		w.arrow(n.L[0])
		return
	}
	w.write("$", n.S)
}

// several writes the array or hash of which a slice is.
func (w *writer) several(n api.Node) {
	if n.Op == api.NDeref {
		w.referred("@", n)
		return
	}
	w.write("@", n.S)
}

// key writes the key of an element.
func (w *writer) key(n api.Node) {
	if n.Op == api.NStr && isWord(n.S) {
		w.write(n.S)
		return
	}
	w.expr(n)
}

// places writes the places or keys of a slice; one alone stands in parentheses.
func (w *writer) places(n api.Node) {
	if len(n.L) == 1 {
		w.list(n.L)
		return
	}
	w.parts(n.L)
}
