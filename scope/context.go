package scope

import "motley/api"

// stance is how a node stands in what is around it.
type stance struct {
	context int  // of an expression, or of the value that a statement gives
	ones    bool // if it is a list, each part of it stands in One
}

// parts calls a function with each part of a node, which has a stance, and with the part's own stance.
func parts(n api.Node, s stance, do func(x api.Node, s stance)) {
	each := func(context int, l []api.Node) {
		for _, x := range l {
			do(x, stance{context: context})
		}
	}
	switch n.Op {
	case api.NExpr, api.NDo, api.NEval:
		each(s.context, n.L)
	case api.NReturn, api.NDefine, api.NSub:
		each(api.Caller, n.L)
	case api.NWhile:
		each(api.One, n.L[:1])
		each(api.Void, n.L[1:])
	case api.NFor:
		each(api.Many, n.L[:1])
		each(api.Void, n.L[1:])
	case api.NPhase:
		each(api.Void, n.L)
	case api.NBlock, api.NIf, api.NList:
		several(n, s, do)
	case api.NMy, api.NRef:
		for _, x := range n.L {
			do(x, stance{api.One, true})
		}
	default:
		operands(n, s, do, each)
	}
}

// several calls a function with the parts of a block, a choice or a list, and their stances.
func several(n api.Node, s stance, do func(x api.Node, s stance)) {
	for i, x := range n.L {
		part := stance{context: s.context}
		switch {
		case n.Op == api.NIf && x.Op != api.NBlock:
			part.context = api.One
		case n.Op == api.NIf:
		case n.Op == api.NList && s.ones:
			part = stance{api.One, true}
		case n.Op == api.NList && (s.context == api.Many || s.context == api.Caller):
		case i < len(n.L)-1:
			part.context = api.Void
		}
		do(x, part)
	}
}

// operands calls a function with the parts of another expression, and their stances; each does so for parts that stand in one context.
func operands(n api.Node, s stance, do func(x api.Node, s stance), each func(context int, l []api.Node)) {
	switch n.Op {
	case api.NAssign:
		do(n.L[0], stance{s.context, true})
		if isList(n.L[0]) {
			each(api.Many, n.L[1:])
		} else {
			each(api.One, n.L[1:])
		}
	case api.NUpdate:
		each(s.context, n.L[:1])
		each(api.One, n.L[1:])
	case api.NLogic, api.NCond:
		each(api.One, n.L[:1])
		each(s.context, n.L[1:])
	case api.NEach:
		if n.S == "map" {
			each(api.Many, n.L)
		} else {
			each(api.One, n.L[:1])
			each(api.Many, n.L[1:])
		}
	default:
		many := singles(n)
		each(api.One, n.L[:many])
		each(api.Many, n.L[many:])
	}
}

// isList reports whether the left side of an assignment is a list, so that its right side stands in Many.
func isList(n api.Node) bool {
	switch n.Op {
	case api.NArray, api.NHash, api.NList, api.NSlice, api.NKeys:
		return true
	case api.NDeref:
		return n.S != "$"
	case api.NMy:
		return n.N == 1 || isList(n.L[0])
	}
	return false
}

// singles returns how many parts of an expression stand in One, before the others, which stand in Many.
func singles(n api.Node) int {
	switch n.Op {
	case api.NNewArr, api.NNewHash, api.NCall:
		return 0
	case api.NSlice, api.NKeys, api.NCallRef, api.NMethod:
		return 1
	case api.NFunc:
		switch n.S {
		case "print", "reverse", "die":
			return 0
		case "push", "unshift", "join":
			return 1
		case "tie":
			return 2
		}
	}
	return len(n.L)
}
