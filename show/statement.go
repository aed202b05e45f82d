package show

import (
	"strings"

	"motley/api"
)

// writer is the text of nodes of a valid program as it is written.
type writer struct {
	strings.Builder
	depth int // how many blocks there are around what is written
}

// write writes some pieces.
func (w *writer) write(pieces ...string) {
	for _, s := range pieces {
		w.WriteString(s)
	}
}

// margin writes the blanks with which a line begins.
func (w *writer) margin() {
	for range w.depth {
		w.WriteString("    ")
	}
}

// statement writes a statement on lines of its own.
func (w *writer) statement(n api.Node) {
	w.margin()
	defer w.WriteByte('\n')
	switch n.Op {
	case api.NExpr:
		w.apart(n.L[0])
		w.write(";")
	case api.NIf:
		w.choices(n.L)
	case api.NWhile:
		w.label(n)
		w.write("while ")
		w.condition(n.L[0])
		w.block(n.L[1])
	case api.NFor:
		w.loop(n)
	case api.NBlock:
		w.label(n)
		w.block(n)
	case api.NDefine:
		w.write("sub ", n.S, " ")
		w.block(n.L[0])
	case api.NPackage:
		w.write("package ", n.S, ";")
	case api.NReturn:
		w.leaving(n)
	case api.NLeave:
		w.write(n.S)
		if n.T != "" {
			w.write(" ", n.T)
		}
		w.write(";")
	case api.NPhase:
		w.write(n.S, " ")
		w.block(n.L[0])
	}
}

// label writes the label of a statement, if it has one.
func (w *writer) label(n api.Node) {
	if n.T != "" {
		w.write(n.T, ": ")
	}
}

// condition writes a condition and the blank before its block.
func (w *writer) condition(n api.Node) {
	w.write("(")
	defer w.write(") ")
	w.expr(n)
}

// block writes a block from its `{` to its `}`.
func (w *writer) block(n api.Node) {
	w.write("{\n")
	w.depth++
	for _, x := range n.L {
		w.statement(x)
	}
	w.depth--
	w.margin()
	w.write("}")
}

// choices writes conditions and blocks by turns, and perhaps a block at the end.
func (w *writer) choices(l []api.Node) {
	word := "if "
	for len(l) > 1 {
		w.write(word)
		w.condition(l[0])
		w.block(l[1])
		word = " elsif "
		l = l[2:]
	}
	if len(l) > 0 {
		w.write(" else ")
		w.block(l[0])
	}
}

// loop writes a loop through a list.
func (w *writer) loop(n api.Node) {
	w.label(n)
	w.write("for ")
	if n.N == 1 {
		w.write("my $", n.S, " ")
	}
	w.list(n.L[0].L)
	w.write(" ")
	w.block(n.L[1])
}

// leaving writes a return.
func (w *writer) leaving(n api.Node) {
	w.write("return")
	defer w.write(";")
	if len(n.L) > 0 {
		w.write(" ")
		w.apart(n.L[0])
	}
}

// apart writes an expression where a `{` at its begin would be that of a block.
func (w *writer) apart(n api.Node) {
	w.enclosed(n, beginsWithHash(n))
}

// beginsWithHash reports whether the first token of an expression is the `{` of a hash.
func beginsWithHash(n api.Node) bool {
	switch n.Op {
	case api.NNewHash:
		return true
	case api.NBin, api.NLogic, api.NCond, api.NMatch, api.NSubst, api.NTrans:
		// A first operand with a first operand of its own is in parentheses.
		return n.L[0].Op == api.NNewHash
	}
	return false
}
