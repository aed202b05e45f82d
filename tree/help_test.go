package tree

import (
	"fmt"
	"strings"

	"motley/api"
	"motley/lex"
)

// opNames are the names of the operations of nodes, without their N.
var opNames = map[int]string{
	api.NNum: "Num", api.NStr: "Str", api.NJoin: "Join", api.NMy: "My", api.NScalar: "Scalar", api.NArray: "Array", api.NHash: "Hash",
	api.NIndex: "Index", api.NKey: "Key", api.NSlice: "Slice", api.NKeys: "Keys", api.NDeref: "Deref", api.NRef: "Ref", api.NList: "List",
	api.NNewArr: "NewArr", api.NNewHash: "NewHash", api.NSub: "Sub", api.NCall: "Call", api.NCallRef: "CallRef", api.NMethod: "Method",
	api.NFunc: "Func", api.NNeg: "Neg", api.NNot: "Not", api.NBin: "Bin", api.NLogic: "Logic", api.NCond: "Cond", api.NAssign: "Assign",
	api.NUpdate: "Update", api.NInc: "Inc", api.NMatch: "Match", api.NSubst: "Subst", api.NTrans: "Trans", api.NEach: "Each", api.NDo: "Do",
	api.NEval: "Eval", api.NExpr: "Expr", api.NIf: "If", api.NWhile: "While", api.NFor: "For", api.NBlock: "Block", api.NDefine: "Define",
	api.NPackage: "Package", api.NReturn: "Return", api.NLeave: "Leave", api.NPhase: "Phase",
}

// form returns a node in a short form: its operation, S (and behind `|` T) if there are some, N if it is not 0 (of numbers always), and what is in it.
func form(n api.Node) string {
	name, ok := opNames[n.Op]
	if !ok {
		name = fmt.Sprint("?", n.Op)
	}
	l := []string{name}
	if n.T != "" {
		l = append(l, n.S+"|"+n.T)
	} else if n.S != "" || n.Op == api.NStr {
		l = append(l, "`"+n.S+"`")
	}
	if n.N != 0 || n.Op == api.NNum {
		l = append(l, fmt.Sprint(n.N))
	}
	for _, x := range n.L {
		l = append(l, form(x))
	}
	if len(l) == 1 {
		return name
	}
	return "(" + strings.Join(l, " ") + ")"
}

// forms returns the short forms of nodes, one behind the other.
func forms(p []api.Node) string {
	var l []string
	for _, n := range p {
		l = append(l, form(n))
	}
	return strings.Join(l, " ")
}

// leaf returns a node with nothing in it.
func leaf(op int, s string) api.Node { return api.Node{Op: op, S: s} }

// with returns a node with a text and others in it.
func with(op int, s string, l ...api.Node) api.Node { return api.Node{Op: op, S: s, L: l} }

func number(n int) api.Node { return api.Node{Op: api.NNum, N: n} }

func statement(n api.Node) []api.Node { return []api.Node{with(api.NExpr, "", n)} }

// source returns a source of nodes that are valid, and of others some text. It has more parentheses than it needs.
func source(p []api.Node) string {
	var b strings.Builder
	for _, n := range p {
		b.WriteString(statementText(n))
		b.WriteByte('\n')
	}
	return b.String()
}

// part returns the node i in another one, or none if there are not so many.
func part(n api.Node, i int) api.Node {
	if i >= len(n.L) {
		return api.Node{}
	}
	return n.L[i]
}

func blockText(n api.Node) string {
	return "{\n" + source(n.L) + "}"
}

func statementText(n api.Node) string {
	label := ""
	if n.T != "" {
		label = n.T + ": "
	}
	a, b := part(n, 0), part(n, 1)
	switch n.Op {
	case api.NExpr:
		return operand(a) + ";"
	case api.NIf:
		return choiceText(n)
	case api.NWhile:
		return label + "while (" + exprText(a) + ") " + blockText(b)
	case api.NFor:
		if n.N == 1 {
			return label + "for my $" + n.S + " (" + listText(a.L) + ") " + blockText(b)
		}
		return label + "for (" + listText(a.L) + ") " + blockText(b)
	case api.NBlock:
		return label + blockText(n)
	case api.NDefine:
		return "sub " + n.S + " " + blockText(a)
	case api.NPackage:
		return "package " + n.S + ";"
	case api.NReturn:
		if len(n.L) == 0 {
			return "return;"
		}
		return "return " + operand(a) + ";"
	case api.NLeave:
		return n.S + " " + n.T + ";"
	case api.NPhase:
		return n.S + " " + blockText(a)
	}
	return "?"
}

func choiceText(n api.Node) string {
	s, word := "", "if"
	l := n.L
	for len(l) >= 2 {
		s += word + " (" + exprText(l[0]) + ") " + blockText(l[1])
		word = " elsif"
		l = l[2:]
	}
	if len(l) == 1 {
		s += " else " + blockText(l[0])
	}
	return s
}

func listText(l []api.Node) string {
	var texts []string
	for _, n := range l {
		texts = append(texts, exprText(n))
	}
	return strings.Join(texts, ", ")
}

// operand returns the text of an expression that can stand beside any operator.
func operand(n api.Node) string {
	switch n.Op {
	case api.NScalar, api.NArray, api.NHash, api.NNum, api.NList:
		return exprText(n)
	}
	return "(" + exprText(n) + ")"
}

func exprText(n api.Node) string {
	a, b := part(n, 0), part(n, 1)
	switch n.Op {
	case api.NNum:
		return fmt.Sprint(n.N)
	case api.NStr:
		return `"` + interText([]api.Node{n}) + `"`
	case api.NJoin:
		return `"` + interText(n.L) + `"`
	case api.NMy:
		if n.S != "local" && n.N == 1 {
			return n.S + " (" + listText(n.L) + ")"
		}
		return n.S + " " + listText(n.L)
	case api.NScalar:
		return "$" + n.S
	case api.NArray:
		return "@" + n.S
	case api.NHash:
		return "%" + n.S
	case api.NIndex:
		return elementText(a) + "[" + exprText(b) + "]"
	case api.NKey:
		if b.Op == api.NStr && lex.IsWord(b.S) {
			return elementText(a) + "{" + b.S + "}"
		}
		return elementText(a) + "{" + exprText(b) + "}"
	case api.NSlice:
		return sliceText(a) + "[" + listText(b.L) + "]"
	case api.NKeys:
		return sliceText(a) + "{" + listText(b.L) + "}"
	case api.NDeref:
		return n.S + "{" + exprText(a) + "}"
	case api.NList:
		if len(n.L) == 1 {
			return "(" + exprText(a) + ",)"
		}
		return "(" + listText(n.L) + ")"
	case api.NNewArr:
		return "[" + listText(n.L) + "]"
	case api.NNewHash:
		return "{" + listText(n.L) + "}"
	}
	return callText(n)
}

// elementText returns what stands before the place or key of an element.
func elementText(of api.Node) string {
	if of.Op == api.NDeref {
		return operand(part(of, 0)) + "->"
	}
	return "$" + of.S
}

// sliceText returns what stands before the places or keys of a slice.
func sliceText(of api.Node) string {
	if of.Op == api.NDeref {
		return "@{" + exprText(part(of, 0)) + "}"
	}
	return "@" + of.S
}

func callText(n api.Node) string {
	a, b := part(n, 0), part(n, 1)
	var rest []api.Node
	if len(n.L) > 0 {
		rest = n.L[1:]
	}
	switch n.Op {
	case api.NSub:
		return "sub " + blockText(a)
	case api.NDo:
		return "do " + blockText(a)
	case api.NEval:
		return "eval " + blockText(a)
	case api.NEach:
		return n.S + " " + blockText(a) + " (" + listText(b.L) + ")"
	case api.NCall, api.NFunc:
		return n.S + "(" + listText(n.L) + ")"
	case api.NCallRef:
		return operand(a) + "->(" + listText(rest) + ")"
	case api.NMethod:
		return operand(a) + "->" + n.S + "(" + listText(rest) + ")"
	}
	return operationText(n)
}

func operationText(n api.Node) string {
	a, b := part(n, 0), part(n, 1)
	switch n.Op {
	case api.NRef:
		return "\\" + operand(a)
	case api.NNeg:
		return "- " + operand(a)
	case api.NNot:
		return "! " + operand(a)
	case api.NBin, api.NLogic:
		return operand(a) + " " + n.S + " " + operand(b)
	case api.NCond:
		return operand(a) + " ? " + operand(b) + " : " + operand(part(n, 2))
	case api.NAssign:
		return exprText(a) + " = " + operand(b)
	case api.NUpdate:
		return exprText(a) + " " + n.S + " " + operand(b)
	case api.NInc:
		return strings.ReplaceAll(n.S, "x", operand(a))
	case api.NMatch:
		return operand(a) + " =~ m/" + slashed(n.S) + "/" + n.T
	case api.NSubst:
		by := b.L
		if b.Op == api.NStr {
			by = []api.Node{b}
		}
		return operand(a) + " =~ s/" + slashed(n.S) + "/" + slashed(interText(by)) + "/" + n.T
	case api.NTrans:
		return operand(a) + " =~ tr/" + escaped(n.S) + "/" + escaped(n.T) + "/" + b.S
	}
	return "?"
}

func slashed(s string) string { return strings.ReplaceAll(s, "/", `\/`) }

func escaped(s string) string { return slashed(strings.ReplaceAll(s, `\`, `\\`)) }

// interText returns what stands between `"` and `"` for parts.
func interText(parts []api.Node) string {
	var b strings.Builder
	for _, n := range parts {
		switch n.Op {
		case api.NStr:
			for _, c := range n.S {
				if strings.ContainsRune("\"\\$@[{", c) {
					b.WriteString("\\" + string(c))
				} else if c < ' ' || c > '~' {
					fmt.Fprintf(&b, "\\x{%x}", c)
				} else {
					b.WriteRune(c)
				}
			}
		case api.NScalar:
			if lex.IsWord(n.S) {
				b.WriteString("${" + n.S + "}")
			} else {
				b.WriteString("$" + n.S)
			}
		case api.NArray:
			b.WriteString("@{" + n.S + "}")
		default:
			b.WriteString(exprText(n))
		}
	}
	return b.String()
}
