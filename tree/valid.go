package tree

import "motley/api"

// Validate returns OK for the programs that Parse can make of sources of any length.
func Validate(p []api.Node) api.Errno {
	if isLarge(p) {
		return api.ErrLarge
	}
	if !areStatements(p) {
		return api.ErrArg
	}
	return api.OK
}

// only reports whether a node has the same texts and number as another one, which is made of those that it may have.
func only(n, may api.Node) bool {
	return n.S == may.S && n.T == may.T && n.N == may.N
}

// areStatements reports whether nodes are such as Parse makes of statements.
func areStatements(l []api.Node) bool {
	for _, n := range l {
		if !isStatement(n) {
			return false
		}
	}
	return true
}

func isStatement(n api.Node) bool {
	switch n.Op {
	case api.NExpr:
		return only(n, api.Node{}) && len(n.L) == 1 && areExprs(n.L)
	case api.NReturn:
		return only(n, api.Node{}) && len(n.L) <= 1 && areExprs(n.L)
	case api.NIf:
		return only(n, api.Node{}) && areChoices(n.L)
	case api.NWhile:
		return only(n, api.Node{T: n.T}) && isLabel(n.T) && len(n.L) == 2 && isExpr(n.L[0]) && isBlock(n.L[1])
	case api.NFor:
		return isFor(n)
	case api.NBlock:
		return only(n, api.Node{T: n.T}) && isLabel(n.T) && areStatements(n.L)
	case api.NDefine:
		return only(n, api.Node{S: n.S}) && IsName(n.S) && hasBlock(n)
	case api.NPackage:
		return only(n, api.Node{S: n.S}) && IsName(n.S) && len(n.L) == 0
	case api.NLeave:
		word := n.S == "last" || n.S == "next"
		return only(n, api.Node{S: n.S, T: n.T}) && word && isLabel(n.T) && len(n.L) == 0
	case api.NPhase:
		word := n.S == "BEGIN" || n.S == "END"
		return only(n, api.Node{S: n.S}) && word && hasBlock(n)
	}
	return false
}

// isLabel reports whether a text is a label, or says that there is none.
func isLabel(s string) bool {
	return s == "" || IsName(s)
}

// isBlock reports whether a node is a block that belongs to another node.
func isBlock(n api.Node) bool {
	return n.Op == api.NBlock && n.T == "" && isStatement(n)
}

// hasBlock reports whether a block is all that is in a node.
func hasBlock(n api.Node) bool {
	return len(n.L) == 1 && isBlock(n.L[0])
}

// areChoices reports whether nodes are conditions and blocks by turns, and perhaps a block at the end.
func areChoices(l []api.Node) bool {
	for len(l) >= 2 {
		if !isExpr(l[0]) || !isBlock(l[1]) {
			return false
		}
		l = l[2:]
		if len(l) == 0 {
			return true
		}
		if len(l) == 1 {
			return isBlock(l[0])
		}
	}
	return false
}

func isFor(n api.Node) bool {
	variable := n.N == 0 && n.S == "_" || n.N == 1 && isOwnName(n.S)
	return variable && isLabel(n.T) && len(n.L) == 2 && isList(n.L[0]) && isBlock(n.L[1])
}

// areExprs reports whether nodes are such as Parse makes of expressions.
func areExprs(l []api.Node) bool {
	for _, n := range l {
		if !isExpr(n) {
			return false
		}
	}
	return true
}

func isExpr(n api.Node) bool {
	switch n.Op {
	case api.NNum, api.NStr, api.NJoin, api.NMatch, api.NSubst, api.NTrans:
		return isQuoted(n)
	case api.NMy, api.NScalar, api.NArray, api.NHash, api.NIndex, api.NKey, api.NSlice, api.NKeys, api.NDeref:
		return isPlace(n)
	case api.NList, api.NNewArr, api.NNewHash:
		return only(n, api.Node{}) && areExprs(n.L)
	case api.NSub, api.NDo, api.NEval:
		return only(n, api.Node{}) && hasBlock(n)
	case api.NEach:
		word := n.S == "map" || n.S == "grep" || n.S == "sort"
		return only(n, api.Node{S: n.S}) && word && len(n.L) == 2 && isBlock(n.L[0]) && isList(n.L[1])
	case api.NCall, api.NCallRef, api.NMethod, api.NFunc:
		return areExprs(n.L) && isCall(n)
	}
	return areExprs(n.L) && isOperation(n)
}

// isList reports whether a node is a list where there always is one.
func isList(n api.Node) bool {
	return n.Op == api.NList && isExpr(n)
}

// isCall reports whether a call, whose parts are expressions, is such as Parse makes.
func isCall(n api.Node) bool {
	switch n.Op {
	case api.NCall:
		return only(n, api.Node{S: n.S}) && IsName(n.S)
	case api.NCallRef:
		return only(n, api.Node{}) && len(n.L) > 0
	case api.NMethod:
		return only(n, api.Node{S: n.S}) && IsName(n.S) && len(n.L) > 0
	}
	_, _, function := Arity(n.S)
	return only(n, api.Node{S: n.S}) && function && takes(n.S, n.L)
}

// isOperation reports whether a node, whose parts are expressions, is such as Parse makes of an operator and its operands.
func isOperation(n api.Node) bool {
	count := len(n.L)
	switch n.Op {
	case api.NRef, api.NNeg, api.NNot:
		return only(n, api.Node{}) && count == 1
	case api.NBin, api.NLogic:
		return only(n, api.Node{S: n.S}) && isBetween(n) && count == 2
	case api.NCond:
		return only(n, api.Node{}) && count == 3
	case api.NAssign:
		return only(n, api.Node{}) && count == 2 && isAssignable(n.L[0])
	case api.NUpdate:
		return only(n, api.Node{S: n.S}) && isUpdate(n.S) && count == 2 && isChangeable(n.L[0])
	case api.NInc:
		word := n.S == "++x" || n.S == "x++" || n.S == "--x" || n.S == "x--"
		return only(n, api.Node{S: n.S}) && word && count == 1 && isChangeable(n.L[0])
	}
	return false
}

// isBetween reports whether a node has an operator that makes such a node of two operands.
func isBetween(n api.Node) bool {
	switch n.S {
	case "||", "&&", "//":
		return n.Op == api.NLogic
	case "..", "&", "|", "^", "==", "!=", "<=>", "eq", "ne", "cmp", "<", ">", "<=", ">=", "lt", "gt", "le", "ge",
		"+", "-", ".", "*", "/", "%", "x":
		return n.Op == api.NBin
	}
	return false
}
