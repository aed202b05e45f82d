package tree

import (
	"strings"

	"motley/api"
	"motley/lex"
)

// IsName reports whether a text can be the name of a sub, label, package, class or method.
func IsName(s string) bool {
	_, _, function := Arity(s)
	return lex.IsWord(s) && !function && !isGrammar(s)
}

// Arity returns the least and the greatest number of arguments of a function of the language (-1: any number).
func Arity(name string) (int, int, bool) {
	switch name {
	case "wantarray", "input":
		return 0, 0, true
	case "shift", "undef":
		return 0, 1, true
	case "pop", "keys", "values", "delete", "exists", "defined", "scalar", "length", "uc", "lc", "ord", "chr", "ref",
		"weaken", "untie", "guard", "tainted", "abs", "evaluate":
		return 1, 1, true
	case "split", "index", "bless":
		return 2, 2, true
	case "substr":
		return 2, 3, true
	case "print", "reverse", "die":
		return 0, -1, true
	case "push", "unshift", "join":
		return 1, -1, true
	case "tie":
		return 2, -1, true
	}
	return 0, 0, false
}

// isGrammar reports whether a text is a word of the grammar other than a function.
func isGrammar(s string) bool {
	switch s {
	case "my", "our", "local", "sub", "return", "package", "last", "next", "if", "unless", "elsif", "else", "while", "until",
		"for", "do", "eval", "map", "grep", "sort", "and", "or", "not", "x", "lt", "gt", "le", "ge", "eq", "ne", "cmp",
		"BEGIN", "END", "q", "qq", "qw", "m", "s", "tr":
		return true
	}
	return false
}

// isScalarName reports whether a scalar can have a name.
func isScalarName(s string) bool {
	return lex.IsWord(s) || isOtherScalar(s)
}

// isOtherScalar reports whether a text is the name of a scalar that is no word.
func isOtherScalar(s string) bool {
	return len(s) == 1 && strings.Contains("@&123456789", s)
}

// isOwnName reports whether `my` and `our` can bring in a name.
func isOwnName(s string) bool {
	return lex.IsWord(s) && s != "_" && !strings.Contains(s, "::")
}

// takes reports whether a function of the language takes arguments.
func takes(name string, args []api.Node) bool {
	least, most, _ := Arity(name)
	if len(args) < least || most >= 0 && len(args) > most {
		return false
	}
	if len(args) == 0 {
		return true
	}
	first := args[0]
	switch name {
	case "push", "unshift", "pop", "shift":
		return isArray(first)
	case "keys", "values":
		return isHash(first)
	case "delete", "exists":
		return isElement(first)
	case "weaken", "tie", "untie":
		return isScalar(first)
	case "undef":
		return isArray(first) || isHash(first) || isScalar(first)
	case "split":
		return first.Op == api.NMatch
	}
	return true
}

func isArray(n api.Node) bool {
	return n.Op == api.NArray || n.Op == api.NDeref && n.S == "@"
}

func isHash(n api.Node) bool {
	return n.Op == api.NHash || n.Op == api.NDeref && n.S == "%"
}

func isElement(n api.Node) bool {
	return n.Op == api.NIndex || n.Op == api.NKey
}

// isScalar reports whether a node is a scalar that can be assigned.
func isScalar(n api.Node) bool {
	return n.Op == api.NScalar || isElement(n) || n.Op == api.NDeref && n.S == "$"
}

func isSlice(n api.Node) bool {
	return n.Op == api.NSlice || n.Op == api.NKeys
}

// isAssignable reports whether a node can stand left of `=`.
func isAssignable(n api.Node) bool {
	switch n.Op {
	case api.NMy:
		return true
	case api.NList:
		for _, x := range n.L {
			passed := x.Op == api.NFunc && x.S == "undef" && len(x.L) == 0
			if !passed && !isAssignable(x) {
				return false
			}
		}
		return true
	}
	return isScalar(n) || isArray(n) || isHash(n) || isSlice(n)
}

// isChangeable reports whether a node can be changed by `++`, `--`, `+=` and its like.
func isChangeable(n api.Node) bool {
	if n.Op == api.NMy {
		return n.N == 0 && len(n.L) == 1 && isChangeable(n.L[0])
	}
	return isScalar(n)
}

// isLocalable reports whether `local` can stand before a node.
func isLocalable(n api.Node) bool {
	switch n.Op {
	case api.NScalar, api.NArray, api.NHash:
		return true
	case api.NList:
		for _, x := range n.L {
			if !isLocalable(x) {
				return false
			}
		}
		return true
	}
	return isElement(n) || isSlice(n)
}
