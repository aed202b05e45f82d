package tree

import (
	"slices"
	"strings"
	"testing"

	"motley/api"
)

var (
	x     = leaf(api.NScalar, "x")
	array = leaf(api.NArray, "x")
	table = leaf(api.NHash, "x")
	empty = api.Node{Op: api.NBlock}
	list  = with(api.NList, "", x)
)

func str(s string) api.Node { return leaf(api.NStr, s) }

// flagged returns a node with a second text.
func flagged(op int, s, t string, l ...api.Node) api.Node {
	return api.Node{Op: op, S: s, T: t, L: l}
}

// counted returns a node with an N.
func counted(n api.Node, N int) api.Node {
	n.N = N
	return n
}

// P4.1: expressions that are valid.
func TestValidExprs(t *testing.T) {
	for i, n := range []api.Node{
		number(0), number(999_999_999_999_999),
		str(""), str("\x00\u00e9\U0010ffff"), str(strings.Repeat("a", api.MaxText)), str(strings.Repeat("\u00e9", api.MaxText/2)),
		with(api.NJoin, "", x), with(api.NJoin, "", x, x, str("a"), array),
		with(api.NJoin, "", with(api.NIndex, "", array, number(5)), with(api.NIndex, "", array, x), with(api.NKey, "", table, str("if"))),
		with(api.NMy, "my", x), with(api.NMy, "our", array), counted(with(api.NMy, "my", table), 1), counted(with(api.NMy, "our", x, x, array), 1),
		with(api.NMy, "local", leaf(api.NScalar, "1")), with(api.NMy, "local", leaf(api.NArray, "_")), with(api.NMy, "local", with(api.NList, "")),
		with(api.NMy, "local", with(api.NList, "", leaf(api.NHash, "A::b"), with(api.NSlice, "", array, list))),
		leaf(api.NScalar, "@"), leaf(api.NScalar, "&"), leaf(api.NScalar, "9"), leaf(api.NScalar, "_"), leaf(api.NScalar, "A::b"), leaf(api.NHash, "print"),
		with(api.NIndex, "", array, list), with(api.NIndex, "", with(api.NDeref, "@", number(1)), x), with(api.NKey, "", table, x), with(api.NKey, "", with(api.NDeref, "%", x), str("a b")),
		with(api.NSlice, "", array, with(api.NList, "")), with(api.NSlice, "", with(api.NDeref, "@", x), list), with(api.NKeys, "", table, list), with(api.NKeys, "", with(api.NDeref, "%", x), list),
		with(api.NDeref, "$", x), with(api.NDeref, "@", list), with(api.NDeref, "%", with(api.NDo, "", empty)),
		with(api.NRef, "", list), with(api.NList, ""), with(api.NNewArr, "", x, list), with(api.NNewHash, "", x), with(api.NSub, "", empty),
		with(api.NCall, "f"), with(api.NCall, "A::f", x, list), with(api.NCallRef, "", x), with(api.NCallRef, "", list, x), with(api.NMethod, "f", str("A")), with(api.NMethod, "SUPER::f", x, x),
		with(api.NFunc, "print"), with(api.NFunc, "push", array, x), with(api.NFunc, "split", flagged(api.NMatch, ",", "g", x), x), with(api.NFunc, "undef", table),
		with(api.NNeg, "", x), with(api.NNot, "", x), with(api.NBin, "x", x, x), with(api.NBin, "..", x, list), with(api.NLogic, "//", x, x), with(api.NCond, "", x, x, x),
		with(api.NAssign, "", list, x), with(api.NAssign, "", with(api.NList, "", with(api.NFunc, "undef"), list), x), with(api.NUpdate, "||=", x, list), with(api.NInc, "x--", x),
		with(api.NMatch, "", x), with(api.NMatch, " ~\t", x), flagged(api.NMatch, "a/\\\\\\.\n", "imsxg", list), flagged(api.NSubst, "a", "ig", x, str("")), with(api.NSubst, "/", x, with(api.NJoin, "", x)),
		with(api.NTrans, "", x, str("")), flagged(api.NTrans, "\\", "/\n ~", x, str("cdr")),
		with(api.NEach, "map", empty, list), with(api.NEach, "sort", empty, with(api.NList, "")), with(api.NDo, "", empty), with(api.NEval, "", empty),
	} {
		if e := Validate(statement(n)); e != api.OK {
			t.Errorf("case %d: Validate is %d of %.60s", i, e, form(n))
		}
		if e := Validate([]api.Node{n}); e != api.ErrArg {
			t.Errorf("case %d: Validate is %d of %.60s as a statement", i, e, form(n))
		}
		if q, _, e := Parse(source(statement(n))); e == api.OK && !Same(q, statement(n)) {
			t.Errorf("case %d: %.60s is read as %.60s", i, form(n), forms(q))
		}
	}
}

// P4.1: expressions that Parse does not make.
func TestWrongExprs(t *testing.T) {
	wide := with(api.NIndex, "", with(api.NDeref, "@", x), x)
	for i, n := range []api.Node{
		number(-1), number(1_000_000_000_000_000), with(api.NNum, "1"), with(api.NNum, "", x),
		str("\xff"), str("\xed\xa0\x80"), str(strings.Repeat("a", api.MaxText+1)), flagged(api.NStr, "a", "a"), counted(str("a"), 1), with(api.NStr, "a", x),
		with(api.NJoin, ""), with(api.NJoin, "", str("a")), with(api.NJoin, "", str(""), x), with(api.NJoin, "", x, str("")), with(api.NJoin, "", str("a"), str("b"), x), with(api.NJoin, "", str("\xff"), x),
		with(api.NJoin, "a", x), with(api.NJoin, "", number(1), x), with(api.NJoin, "", table), with(api.NJoin, "", with(api.NDeref, "$", x)), with(api.NJoin, "", wide), with(api.NJoin, "", list),
		with(api.NJoin, "", with(api.NIndex, "", array, array)), with(api.NJoin, "", with(api.NIndex, "", array, leaf(api.NScalar, "1"))), with(api.NJoin, "", with(api.NIndex, "", array, number(-1))),
		with(api.NJoin, "", with(api.NKey, "", table, x)), with(api.NJoin, "", with(api.NKey, "", table, str("1"))), with(api.NJoin, "", with(api.NJoin, "", x)), with(api.NJoin, "", with(api.NSlice, "", array, list)),
		with(api.NMy, ""), with(api.NMy, "my"), with(api.NMy, "its", x), with(api.NMy, "my", x, x), counted(with(api.NMy, "my"), 1), counted(with(api.NMy, "my", x), 2), counted(with(api.NMy, "our", x), -1),
		flagged(api.NMy, "my", "a", x), with(api.NMy, "my", leaf(api.NScalar, "_")), with(api.NMy, "our", leaf(api.NScalar, "A::b")), with(api.NMy, "my", leaf(api.NScalar, "1")), with(api.NMy, "my", number(1)), with(api.NMy, "our", list),
		counted(with(api.NMy, "local", x), 1), with(api.NMy, "local", x, x), with(api.NMy, "local", number(1)), with(api.NMy, "local", with(api.NDeref, "$", x)), with(api.NMy, "local", with(api.NMy, "my", x)), with(api.NMy, "local", with(api.NList, "", number(1))),
		leaf(api.NScalar, ""), leaf(api.NScalar, "0"), leaf(api.NScalar, "12"), leaf(api.NScalar, "abcdefghijklm"), leaf(api.NArray, "@"), leaf(api.NArray, "1"), leaf(api.NHash, "&"), leaf(api.NHash, "a-b"), with(api.NScalar, "x", x), counted(x, 1), flagged(api.NArray, "x", "y"),
		with(api.NIndex, "", array), with(api.NIndex, "", array, x, x), with(api.NIndex, "", x, x), with(api.NIndex, "", table, x), with(api.NIndex, "", with(api.NDeref, "%", x), x), with(api.NIndex, "a", array, x), with(api.NKey, "", array, x), with(api.NKey, "", with(api.NDeref, "@", x), x),
		with(api.NSlice, "", array, x), with(api.NSlice, "", table, list), with(api.NKeys, "", array, list), with(api.NKeys, "", table, with(api.NNewArr, "")), with(api.NSlice, "", array),
		with(api.NDeref, "", x), with(api.NDeref, "&", x), with(api.NDeref, "$"), with(api.NDeref, "$", x, x), with(api.NDeref, "$", empty), counted(with(api.NDeref, "$", x), 1),
		with(api.NRef, ""), with(api.NRef, "", x, x), with(api.NRef, "a", x), with(api.NList, "a"), counted(list, 1), with(api.NList, "", empty), with(api.NNewArr, "", with(api.NExpr, "", x)), flagged(api.NNewHash, "", "a"),
		with(api.NSub, ""), with(api.NSub, "f", empty), with(api.NSub, "", x), with(api.NSub, "", empty, empty), with(api.NSub, "", flagged(api.NBlock, "", "L")), with(api.NDo, "", with(api.NExpr, "", x)), with(api.NEval, ""),
		with(api.NCall, ""), with(api.NCall, "print"), with(api.NCall, "x"), with(api.NCall, "a b"), with(api.NCall, "f", empty), counted(with(api.NCall, "f"), 1), with(api.NCallRef, ""), with(api.NCallRef, "f", x), with(api.NMethod, "f"), with(api.NMethod, "if", x), with(api.NMethod, "", x),
		with(api.NFunc, ""), with(api.NFunc, "f"), with(api.NFunc, "if"), with(api.NFunc, "push"), with(api.NFunc, "push", x), with(api.NFunc, "uc"), with(api.NFunc, "uc", x, x), with(api.NFunc, "split", x, x), with(api.NFunc, "undef", number(1)), flagged(api.NFunc, "print", "a"),
		with(api.NNeg, ""), with(api.NNot, "", x, x), with(api.NBin, "+", x), with(api.NBin, "+", x, x, x), with(api.NBin, "", x, x), with(api.NBin, "&&", x, x), with(api.NBin, "=", x, x), with(api.NBin, "=~", x, x), with(api.NBin, "<<", x, x), with(api.NLogic, "+", x, x), with(api.NLogic, "or", x, x), with(api.NLogic, "&&", x), with(api.NCond, "", x, x),
		with(api.NAssign, "", x), with(api.NAssign, "=", x, x), with(api.NAssign, "", number(1), x), with(api.NAssign, "", with(api.NFunc, "undef"), x), with(api.NAssign, "", with(api.NList, "", number(1)), x), with(api.NAssign, "", with(api.NDeref, "&", x), x),
		with(api.NUpdate, "=", x, x), with(api.NUpdate, "+", x, x), with(api.NUpdate, "x=", x, x), with(api.NUpdate, "+=", list, x), with(api.NUpdate, "+=", array, x), with(api.NUpdate, "+=", with(api.NDeref, "@", x), x), with(api.NUpdate, "+=", counted(with(api.NMy, "my", x), 1), x), with(api.NUpdate, "+=", with(api.NMy, "my", array), x),
		with(api.NInc, "", x), with(api.NInc, "++", x), with(api.NInc, "++x", array), with(api.NInc, "++x", x, x), with(api.NInc, "++x", with(api.NMy, "local", list)), with(api.NInc, "x++", number(1)),
		with(api.NMatch, "a"), with(api.NMatch, "a", x, x), with(api.NMatch, `a\`, x), with(api.NMatch, `a\/`, x), with(api.NMatch, "\u00e9", x), with(api.NMatch, "\x00", x), flagged(api.NMatch, "a", "gi", x), flagged(api.NMatch, "a", "ii", x), flagged(api.NMatch, "a", "e", x), counted(with(api.NMatch, "a", x), 1),
		with(api.NSubst, "a", x), with(api.NSubst, "a", x, x), with(api.NSubst, "a", x, str("\xff")), with(api.NSubst, `\`, x, str("")), flagged(api.NSubst, "a", "d", x, str("")), with(api.NSubst, "a", x, with(api.NJoin, "", str("a"))),
		with(api.NTrans, "a", x), with(api.NTrans, "a", x, x), with(api.NTrans, "\u00e9", x, str("")), flagged(api.NTrans, "a", "\x7f", x, str("")), with(api.NTrans, "a", x, str("rd")), with(api.NTrans, "a", x, str("g")), counted(with(api.NTrans, "a", x, str("")), 1), with(api.NTrans, "a", empty, str("")),
		with(api.NEach, "each", empty, list), with(api.NEach, "map", empty, x), with(api.NEach, "map", x, list), with(api.NEach, "map", empty), with(api.NEach, "map", flagged(api.NBlock, "", "L"), list), with(api.NEach, "", empty, list),
		{}, {Op: -1}, {Op: 36}, {Op: 39}, {Op: 50}, {Op: 1 << 60}, empty, with(api.NReturn, ""),
	} {
		if e := Validate(statement(n)); e != api.ErrArg {
			t.Errorf("case %d: Validate is %d of %.60s", i, e, form(n))
		}
	}
}

// P4.1: statements that are valid, and others.
func TestValidStatements(t *testing.T) {
	for i, n := range []api.Node{
		with(api.NExpr, "", x), with(api.NIf, "", x, empty), with(api.NIf, "", x, empty, empty), with(api.NIf, "", x, empty, x, empty, empty),
		flagged(api.NWhile, "", "L", x, empty), with(api.NWhile, "", list, empty), with(api.NFor, "_", list, empty), counted(flagged(api.NFor, "x", "y", list, empty), 1),
		empty, flagged(api.NBlock, "", "L", empty, with(api.NReturn, "")), with(api.NDefine, "A::f", empty), leaf(api.NPackage, "A"), with(api.NReturn, ""), with(api.NReturn, "", list),
		leaf(api.NLeave, "last"), flagged(api.NLeave, "next", "L"), with(api.NPhase, "BEGIN", empty), with(api.NPhase, "END", empty),
	} {
		if e := Validate([]api.Node{n}); e != api.OK {
			t.Errorf("case %d: Validate is %d of %s", i, e, form(n))
		}
		if e := Validate(statement(n)); e != api.ErrArg {
			t.Errorf("case %d: Validate is %d of %s as an expression", i, e, form(n))
		}
	}
	labelled := flagged(api.NBlock, "", "L")
	for i, n := range []api.Node{
		with(api.NExpr, ""), with(api.NExpr, "", x, x), with(api.NExpr, "a", x), flagged(api.NExpr, "", "L", x), with(api.NExpr, "", empty), with(api.NExpr, "", with(api.NExpr, "", x)),
		with(api.NIf, ""), with(api.NIf, "", x), with(api.NIf, "", empty), with(api.NIf, "", empty, empty), with(api.NIf, "", x, x), with(api.NIf, "", x, empty, x), with(api.NIf, "", x, labelled), with(api.NIf, "", x, empty, labelled), flagged(api.NIf, "", "L", x, empty),
		with(api.NWhile, "", x), with(api.NWhile, "", empty, x), with(api.NWhile, "", x, empty, empty), flagged(api.NWhile, "", "if", x, empty), with(api.NWhile, "a", x, empty), with(api.NWhile, "", x, labelled),
		with(api.NFor, "", list, empty), with(api.NFor, "x", list, empty), counted(with(api.NFor, "_", list, empty), 1), counted(with(api.NFor, "A::b", list, empty), 1), counted(with(api.NFor, "x", list, empty), 2), counted(with(api.NFor, "", list, empty), 1),
		with(api.NFor, "_", x, empty), with(api.NFor, "_", list), with(api.NFor, "_", list, x), flagged(api.NFor, "_", "1", list, empty), with(api.NFor, "_", list, labelled),
		flagged(api.NBlock, "", "x"), flagged(api.NBlock, "", "print"), with(api.NBlock, "a"), counted(empty, 1), with(api.NBlock, "", x), with(api.NDefine, "", empty), with(api.NDefine, "print", empty), with(api.NDefine, "f"), with(api.NDefine, "f", labelled), flagged(api.NDefine, "f", "a", empty),
		leaf(api.NPackage, ""), leaf(api.NPackage, "if"), with(api.NPackage, "A", empty), with(api.NReturn, "", x, x), with(api.NReturn, "a"), with(api.NReturn, "", empty),
		leaf(api.NLeave, ""), leaf(api.NLeave, "redo"), flagged(api.NLeave, "last", "my"), with(api.NLeave, "last", x), with(api.NPhase, "", empty), with(api.NPhase, "INIT", empty), with(api.NPhase, "BEGIN"), with(api.NPhase, "BEGIN", empty, empty), counted(with(api.NPhase, "END", empty), 1),
	} {
		if e := Validate([]api.Node{empty, n}); e != api.ErrArg {
			t.Errorf("case %d: Validate is %d of %s", i, e, form(n))
		}
	}
}

// P4.1: the greatest programs; too large ones are refused first.
func TestValidateLarge(t *testing.T) {
	if e := Validate(nil); e != api.OK {
		t.Errorf("Validate is %d of nothing", e)
	}
	end := with(api.NReturn, "")
	deep := empty
	for range api.MaxNest - 1 {
		deep = with(api.NBlock, "", deep)
	}
	for i, c := range []struct {
		p    []api.Node
		want api.Errno
	}{
		{slices.Repeat([]api.Node{end}, api.MaxNodes), api.OK},
		{slices.Repeat([]api.Node{end}, api.MaxNodes+1), api.ErrLarge},
		{slices.Repeat([]api.Node{{}}, api.MaxNodes), api.ErrArg},
		{slices.Repeat([]api.Node{{}}, api.MaxNodes+1), api.ErrLarge},
		{[]api.Node{deep, end}, api.OK},
		{[]api.Node{end, with(api.NBlock, "", deep)}, api.ErrLarge},
		{[]api.Node{{}, with(api.NReturn, "", deep)}, api.ErrLarge},
	} {
		if e := Validate(c.p); e != c.want {
			t.Errorf("case %d: Validate is %d, not %d", i, e, c.want)
		}
	}
}
