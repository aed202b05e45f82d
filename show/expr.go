package show

import (
	"strconv"
	"strings"

	"motley/api"
	"motley/tree"
)

// expr writes an expression without parentheses around it.
func (w *writer) expr(n api.Node) {
	switch n.Op {
	case api.NNum:
		w.write(strconv.Itoa(n.N))
	case api.NStr:
		w.text(n)
	case api.NJoin:
		w.write(`"`, inter(n), `"`)
	case api.NMatch, api.NSubst, api.NTrans:
		w.match(n)
	case api.NMy, api.NScalar, api.NArray, api.NHash, api.NIndex, api.NKey, api.NSlice, api.NKeys, api.NDeref:
		w.place(n)
	case api.NList:
		w.whole(n)
	case api.NNewArr:
		w.write("[")
		w.parts(n.L)
		w.write("]")
	case api.NNewHash:
		w.write("{")
		w.parts(n.L)
		w.write("}")
	case api.NSub, api.NDo, api.NEval, api.NEach:
		w.around(n)
	case api.NCall, api.NFunc, api.NCallRef, api.NMethod:
		w.call(n)
	default:
		w.operation(n)
	}
}

// enclosed writes an expression, in parentheses if they are needed.
func (w *writer) enclosed(n api.Node, needed bool) {
	if needed {
		w.WriteByte('(')
		defer w.WriteByte(')')
	}
	w.expr(n)
}

// operand writes an operand.
func (w *writer) operand(n api.Node) {
	w.enclosed(n, isLoose(n))
}

// isLoose reports whether an expression is in parentheses wherever it is an operand.
func isLoose(n api.Node) bool {
	switch n.Op {
	case api.NNeg, api.NNot, api.NBin, api.NLogic, api.NCond, api.NAssign, api.NUpdate, api.NInc, api.NRef:
		return true
	case api.NMy:
		return n.S == "local"
	case api.NMatch, api.NSubst, api.NTrans:
		return !isTopic(n.L[0])
	}
	return false
}

// isTopic reports whether a node is the scalar `_`.
func isTopic(n api.Node) bool {
	return n.Op == api.NScalar && n.S == "_"
}

// left writes the left operand of an operator.
func (w *writer) left(n api.Node, sign string) {
	// Behind the `}` of a block, these signs would begin a term.
	begins := sign == "/" || sign == "//" || sign == "%" || sign == "&"
	ends := n.Op == api.NSub || n.Op == api.NDo || n.Op == api.NEval
	w.enclosed(n, isLoose(n) || begins && ends)
}

// right writes the right operand of an operator.
func (w *writer) right(n api.Node, sign string) {
	word := 'a' <= sign[0] && sign[0] <= 'z'
	w.enclosed(n, isLoose(n) || word && beginsWithHash(n))
}

// arrow writes what stands before a `->`, and this.
func (w *writer) arrow(n api.Node) {
	needed := isLoose(n)
	switch n.Op {
	case api.NSub, api.NDo, api.NEval, api.NEach, api.NMy, api.NNum, api.NStr, api.NJoin, api.NNewHash,
		api.NMatch, api.NSubst, api.NTrans:
		needed = true
	}
	w.enclosed(n, needed)
	w.write("->")
}

// operation writes an operator and its operands.
func (w *writer) operation(n api.Node) {
	switch n.Op {
	case api.NRef:
		w.write(`\`)
		w.operand(n.L[0])
	case api.NNeg:
		w.write("-")
		if n.L[0].Op == api.NNum {
			w.write(" ")
		}
		w.operand(n.L[0])
	case api.NNot:
		w.write("!")
		w.operand(n.L[0])
	case api.NBin, api.NLogic:
		w.left(n.L[0], n.S)
		w.write(" ", n.S, " ")
		w.right(n.L[1], n.S)
	case api.NCond:
		w.operand(n.L[0])
		w.write(" ? ")
		w.operand(n.L[1])
		w.write(" : ")
		w.operand(n.L[2])
	case api.NAssign:
		w.assigned(n.L[0])
		w.write(" = ")
		w.operand(n.L[1])
	case api.NUpdate:
		w.expr(n.L[0])
		w.write(" ", n.S, " ")
		w.operand(n.L[1])
	case api.NInc:
		before, behind, _ := strings.Cut(n.S, "x")
		w.write(before)
		w.operand(n.L[0])
		w.write(behind)
	}
}

// assigned writes what stands left of a `=`.
func (w *writer) assigned(n api.Node) {
	if n.Op == api.NList {
		w.list(n.L)
		return
	}
	w.expr(n)
}

// parts writes expressions with commas between them.
func (w *writer) parts(l []api.Node) {
	for i, n := range l {
		if i > 0 {
			w.write(", ")
		}
		w.expr(n)
	}
}

// list writes a list in parentheses where the grammar asks for one.
func (w *writer) list(l []api.Node) {
	w.WriteByte('(')
	defer w.WriteByte(')')
	w.parts(l)
}

// whole writes a list where it could be an expression in parentheses.
func (w *writer) whole(n api.Node) {
	w.WriteByte('(')
	defer w.WriteByte(')')
	w.parts(n.L)
	if len(n.L) == 1 {
		w.WriteByte(',')
	}
}

// around writes a block and the word before it, and perhaps a list behind it.
func (w *writer) around(n api.Node) {
	word := n.S
	switch n.Op {
	case api.NSub:
		word = "sub"
	case api.NDo:
		word = "do"
	case api.NEval:
		word = "eval"
	}
	w.write(word, " ")
	w.block(n.L[0])
	if n.Op == api.NEach {
		w.write(" ")
		w.list(n.L[1].L)
	}
}

// call writes a call.
func (w *writer) call(n api.Node) {
	args := n.L
	switch n.Op {
	case api.NCallRef:
		w.arrow(n.L[0])
		args = n.L[1:]
	case api.NMethod:
		w.object(n.L[0])
		args = n.L[1:]
	}
	w.write(n.S)
	w.list(args)
}

// object writes the object or class of a method, and the `->`.
func (w *writer) object(n api.Node) {
	if n.Op == api.NStr && tree.IsName(n.S) {
		w.write(n.S, "->")
		return
	}
	w.arrow(n)
}
