package tree

import (
	"strings"
	"unicode/utf8"

	"motley/api"
	"motley/lex"
)

// Flags of patterns and of transliterations, in their order.
const (
	patFlags   = "imsxg"
	transFlags = "cdr"
)

// isPlace reports whether a node is such as Parse makes of variables and what is in them.
func isPlace(n api.Node) bool {
	switch n.Op {
	case api.NScalar:
		return only(n, api.Node{S: n.S}) && isScalarName(n.S) && len(n.L) == 0
	case api.NArray, api.NHash:
		return only(n, api.Node{S: n.S}) && lex.IsWord(n.S) && len(n.L) == 0
	case api.NDeref:
		sigil := n.S == "$" || n.S == "@" || n.S == "%"
		return only(n, api.Node{S: n.S}) && sigil && len(n.L) == 1 && areExprs(n.L)
	case api.NMy:
		return isMy(n)
	}
	if !only(n, api.Node{}) || len(n.L) != 2 || !areExprs(n.L) {
		return false
	}
	of, place := n.L[0], n.L[1]
	switch n.Op {
	case api.NIndex:
		return isArray(of)
	case api.NKey:
		return isHash(of)
	case api.NSlice:
		return isArray(of) && place.Op == api.NList
	}
	return isHash(of) && place.Op == api.NList
}

func isMy(n api.Node) bool {
	if !only(n, api.Node{S: n.S, N: n.N}) || n.N < 0 || n.N > 1 || len(n.L) == 0 || n.N == 0 && len(n.L) > 1 {
		return false
	}
	switch n.S {
	case "my", "our":
		for _, x := range n.L {
			variable := x.Op == api.NScalar || x.Op == api.NArray || x.Op == api.NHash
			if !variable || !isPlace(x) || !isOwnName(x.S) {
				return false
			}
		}
		return true
	case "local":
		return n.N == 0 && areExprs(n.L) && isLocalable(n.L[0])
	}
	return false
}

// isQuoted reports whether a node is such as Parse makes of numbers and quotes.
func isQuoted(n api.Node) bool {
	switch n.Op {
	case api.NNum:
		return only(n, api.Node{N: n.N}) && n.N >= 0 && n.N < numBound && len(n.L) == 0
	case api.NStr:
		return only(n, api.Node{S: n.S}) && isText(n.S) && len(n.L) == 0
	case api.NJoin:
		return only(n, api.Node{}) && areParts(n.L)
	}
	if !only(n, api.Node{S: n.S, T: n.T}) || !areExprs(n.L) {
		return false
	}
	switch n.Op {
	case api.NMatch:
		return len(n.L) == 1 && isPattern(n.S) && isFlags(n.T, patFlags)
	case api.NSubst:
		return len(n.L) == 2 && isPattern(n.S) && isFlags(n.T, patFlags) && (n.L[1].Op == api.NStr || n.L[1].Op == api.NJoin)
	}
	return len(n.L) == 2 && isOfSource(n.S) && isOfSource(n.T) && n.L[1].Op == api.NStr && isFlags(n.L[1].S, transFlags)
}

func isText(s string) bool {
	return len(s) <= api.MaxText && utf8.ValidString(s)
}

// areParts reports whether nodes are the parts of a text with interpolation in which there is a variable.
func areParts(l []api.Node) bool {
	variables := 0
	text := false // whether the part before is one
	for _, n := range l {
		if n.Op == api.NStr {
			if text || n.S == "" || !isQuoted(n) {
				return false
			}
			text = true
			continue
		}
		if !isPart(n) {
			return false
		}
		variables++
		text = false
	}
	return variables > 0
}

// isPart reports whether a node is a variable or element as it can stand in a text.
func isPart(n api.Node) bool {
	switch n.Op {
	case api.NScalar, api.NArray:
		return isPlace(n)
	case api.NIndex:
		if !isPlace(n) || n.L[0].Op != api.NArray {
			return false
		}
		place := n.L[1]
		return place.Op == api.NNum || place.Op == api.NScalar && lex.IsWord(place.S)
	case api.NKey:
		return isPlace(n) && n.L[0].Op == api.NHash && n.L[1].Op == api.NStr && lex.IsWord(n.L[1].S)
	}
	return false
}

// isOfSource reports whether a text has only bytes that sources have.
func isOfSource(s string) bool {
	for i := range len(s) {
		if s[i] != '\t' && s[i] != '\n' && (s[i] < ' ' || s[i] > '~') {
			return false
		}
	}
	return true
}

// isPattern reports whether a text is one that a quote of a pattern can have.
func isPattern(s string) bool {
	if !isOfSource(s) {
		return false
	}
	for s != "" {
		if s[0] != '\\' {
			s = s[1:]
			continue
		}
		if len(s) == 1 || s[1] == '/' {
			return false
		}
		s = s[2:]
	}
	return true
}

// isFlags reports whether a text has some flags, each once, in their order.
func isFlags(s, flags string) bool {
	for i := range len(flags) {
		s = strings.TrimPrefix(s, flags[i:i+1])
	}
	return s == ""
}
