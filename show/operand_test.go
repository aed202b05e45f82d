package show

import (
	"strings"
	"testing"

	"motley/api"
	"motley/tree"
)

// loose returns one of each kind of expression that is in parentheses wherever it is an operand.
func loose() []api.Node {
	x := scalar("x")
	return []api.Node{
		with(api.NNeg, "", x), with(api.NNot, "", x), with(api.NBin, "+", x, x), with(api.NLogic, "&&", x, x),
		with(api.NCond, "", x, x, x), with(api.NAssign, "", x, x), with(api.NUpdate, ".=", x, x), with(api.NInc, "x++", x),
		with(api.NRef, "", x), with(api.NMy, "local", x), with(api.NMatch, "a", x), with(api.NSubst, "a", x, text("b")),
		with(api.NTrans, "a", x, text("")),
	}
}

// closed returns one of each kind of expression that is in parentheses before a `->` only.
func closed() []api.Node {
	x, topic, block := scalar("x"), scalar("_"), leaf(api.NBlock, "")
	return []api.Node{
		with(api.NSub, "", block), with(api.NDo, "", block), with(api.NEval, "", block), with(api.NEach, "map", block, list()),
		with(api.NMy, "my", x), {Op: api.NMy, S: "our", N: 1, L: []api.Node{x}}, number(1), text("if"), with(api.NJoin, "", x),
		leaf(api.NNewHash, ""), with(api.NMatch, "a", topic), with(api.NSubst, "a", topic, text("b")),
		with(api.NTrans, "a", topic, text("")),
	}
}

// firm returns one of each kind of expression that has no parentheses of its own anywhere.
func firm() []api.Node {
	x, array, hash := scalar("x"), leaf(api.NArray, "x"), leaf(api.NHash, "x")
	return []api.Node{
		x, array, hash, with(api.NIndex, "", array, x), with(api.NKey, "", hash, x), with(api.NSlice, "", array, list()),
		with(api.NKeys, "", hash, list()), with(api.NDeref, "$", x), with(api.NDeref, "@", x), with(api.NDeref, "%", x),
		list(), list(x), list(x, x), leaf(api.NNewArr, ""), leaf(api.NCall, "f"), with(api.NCallRef, "", x),
		with(api.NMethod, "go", x), leaf(api.NFunc, "shift"),
	}
}

// frame is a text with a `#` for an expression, and what makes its node of that of the expression.
type frame struct {
	text string
	make func(n api.Node) api.Node
}

// fill checks how an expression is printed in a frame, in parentheses or not.
func (f frame) fill(t *testing.T, n api.Node, enclosed bool) {
	t.Helper()
	alone, e := Expr(statement(n), []int{0, 0})
	if e != api.OK {
		t.Fatalf("%v alone: %d", n, e)
	}
	if enclosed {
		alone = "(" + alone + ")"
	}
	want := strings.Replace(f.text, "#", alone, 1)
	if s, e := Expr(statement(f.make(n)), []int{0, 0}); s != want || e != api.OK {
		t.Errorf("%s is printed (%d) as %s", want, e, s)
	}
}

// first returns what makes a node of which an expression is the first part.
func first(op int, s string, rest ...api.Node) func(n api.Node) api.Node {
	return func(n api.Node) api.Node {
		return with(op, s, append([]api.Node{n}, rest...)...)
	}
}

// last returns what makes a node of which an expression is the last part.
func last(op int, s string, rest ...api.Node) func(n api.Node) api.Node {
	return func(n api.Node) api.Node {
		return with(op, s, append(rest[:len(rest):len(rest)], n)...)
	}
}

// P5.1: operands are in parentheses if they are operations.
func TestOperands(t *testing.T) {
	y := scalar("y")
	for _, f := range []frame{
		{`\#`, first(api.NRef, "")},
		{"!#", first(api.NNot, "")},
		{"# + $y", first(api.NBin, "+", y)},
		{"$y + #", last(api.NBin, "+", y)},
		{"# && $y", first(api.NLogic, "&&", y)},
		{"$y || #", last(api.NLogic, "||", y)},
		{"# ? $y : $y", first(api.NCond, "", y, y)},
		{"$y ? # : $y", func(n api.Node) api.Node { return with(api.NCond, "", y, n, y) }},
		{"$y ? $y : #", last(api.NCond, "", y, y)},
		{"$y = #", last(api.NAssign, "", y)},
		{"$y += #", last(api.NUpdate, "+=", y)},
		{"# =~ m/a/", first(api.NMatch, "a")},
		{"# =~ s/a/b/", first(api.NSubst, "a", text("b"))},
		{"# =~ tr/a//", first(api.NTrans, "a", text(""))},
	} {
		for _, n := range loose() {
			f.fill(t, n, true)
		}
		for _, n := range append(closed(), firm()...) {
			f.fill(t, n, false)
		}
	}
}

// P5.1: before a number, and only there, a blank stands behind a `-`.
func TestNegative(t *testing.T) {
	f := frame{"-#", first(api.NNeg, "")}
	for _, n := range loose() {
		f.fill(t, n, true)
	}
	for _, n := range append(closed(), firm()...) {
		if n.Op == api.NNum {
			frame{"- #", f.make}.fill(t, n, false)
			continue
		}
		f.fill(t, n, false)
	}
}

// P5.1: before a `->` more expressions are in parentheses.
func TestBeforeArrows(t *testing.T) {
	zero := number(0)
	for _, f := range []frame{
		{"#->[0]", func(n api.Node) api.Node { return with(api.NIndex, "", with(api.NDeref, "@", n), zero) }},
		{"#->{0}", func(n api.Node) api.Node { return with(api.NKey, "", with(api.NDeref, "%", n), zero) }},
		{"#->(0)", first(api.NCallRef, "", zero)},
		{"#->go(0)", first(api.NMethod, "go", zero)},
	} {
		for _, n := range append(loose(), closed()...) {
			f.fill(t, n, true)
		}
		for _, n := range firm() {
			f.fill(t, n, false)
		}
	}
}

// P5.1: in all other places nothing has parentheses of its own.
func TestOtherPlaces(t *testing.T) {
	y, array, hash := scalar("y"), leaf(api.NArray, "y"), leaf(api.NHash, "y")
	for _, f := range []frame{
		{"f(#)", first(api.NCall, "f")},
		{"print($y, #)", last(api.NFunc, "print", y)},
		{"$y->(#)", last(api.NCallRef, "", y)},
		{"$y->go($y, #)", last(api.NMethod, "go", y, y)},
		{"[#]", first(api.NNewArr, "")},
		{"{$y, #}", last(api.NNewHash, "", y)},
		{"{#}", first(api.NNewHash, "")},
		{"(#,)", first(api.NList, "")},
		{"(#, $y)", first(api.NList, "", y)},
		{"$y[#]", last(api.NIndex, "", array)},
		{"$y{#}", last(api.NKey, "", hash)},
		{"@y[#, $y]", func(n api.Node) api.Node { return with(api.NSlice, "", array, list(n, y)) }},
		{"@y[(#)]", func(n api.Node) api.Node { return with(api.NSlice, "", array, list(n)) }},
		{"@y{$y, #}", func(n api.Node) api.Node { return with(api.NKeys, "", hash, list(y, n)) }},
		{"@y{(#)}", func(n api.Node) api.Node { return with(api.NKeys, "", hash, list(n)) }},
		{"${#}", first(api.NDeref, "$")},
		{"@{#}", first(api.NDeref, "@")},
		{"@{#}[]", func(n api.Node) api.Node { return with(api.NSlice, "", with(api.NDeref, "@", n), list()) }},
		{"@{#}{}", func(n api.Node) api.Node { return with(api.NKeys, "", with(api.NDeref, "%", n), list()) }},
		{"map {\n} (#)", func(n api.Node) api.Node { return with(api.NEach, "map", leaf(api.NBlock, ""), list(n)) }},
	} {
		for _, n := range append(append(loose(), closed()...), firm()...) {
			if n.Op == api.NStr && strings.HasPrefix(f.text, "$y{") {
				continue
			}
			f.fill(t, n, false)
		}
	}
}

// P5.1: left of `=` and of `+=` nothing is in parentheses.
func TestLeftSides(t *testing.T) {
	x, array := scalar("x"), leaf(api.NArray, "x")
	f := frame{"# = 1", first(api.NAssign, "", number(1))}
	for _, n := range []api.Node{
		x, array, leaf(api.NHash, "x"), list(), list(x, array), with(api.NMy, "local", x), with(api.NMy, "my", x),
		{Op: api.NMy, S: "our", N: 1, L: []api.Node{x}}, with(api.NDeref, "@", x), with(api.NSlice, "", array, list(x)),
	} {
		f.fill(t, n, false)
	}
	f = frame{"# .= 1", first(api.NUpdate, ".=", number(1))}
	for _, n := range []api.Node{x, with(api.NMy, "local", x), with(api.NMy, "my", x), with(api.NIndex, "", array, x)} {
		f.fill(t, n, false)
	}
	for _, s := range []string{"++x", "x++", "--x", "x--"} {
		f = frame{strings.Replace(s, "x", "#", 1), first(api.NInc, s)}
		f.fill(t, x, false)
		f.fill(t, with(api.NMy, "my", x), false)
		f.fill(t, with(api.NMy, "local", x), true)
	}
}

// signs are the operators with two operands.
const signs = ".. & | ^ == != <=> eq ne cmp < > <= >= lt gt le ge + - . * / % x || && //"

// between returns what makes an operation with a sign.
func between(sign string, a, b api.Node) api.Node {
	op := api.NBin
	if sign == "||" || sign == "&&" || sign == "//" {
		op = api.NLogic
	}
	return with(op, sign, a, b)
}

// P5.1: some left operands that end with a block are in parentheses before signs that could begin a term.
func TestBlocksBeforeSigns(t *testing.T) {
	y, block := scalar("y"), leaf(api.NBlock, "")
	for _, sign := range strings.Fields(signs) {
		begins := sign == "/" || sign == "//" || sign == "%" || sign == "&"
		left := frame{"# " + sign + " $y", func(n api.Node) api.Node { return between(sign, n, y) }}
		right := frame{"$y " + sign + " #", func(n api.Node) api.Node { return between(sign, y, n) }}
		for _, op := range []int{api.NSub, api.NDo, api.NEval} {
			left.fill(t, with(op, "", block), begins)
			right.fill(t, with(op, "", block), false)
		}
		left.fill(t, with(api.NEach, "map", block, list()), false)
		left.fill(t, leaf(api.NNewHash, ""), false)
		left.fill(t, with(api.NBin, "+", y, y), true)
	}
}

// P5.1: a hash behind an operator that is a word is in parentheses.
func TestHashesBehindWords(t *testing.T) {
	y, hash := scalar("y"), with(api.NNewHash, "", text("a"), number(1))
	for _, sign := range strings.Fields(signs) {
		word := strings.ContainsAny(sign, "abcdefghijklmnopqrstuvwxyz")
		right := frame{"$y " + sign + " #", func(n api.Node) api.Node { return between(sign, y, n) }}
		right.fill(t, hash, word)
		right.fill(t, with(api.NIndex, "", with(api.NDeref, "@", hash), y), false)
		right.fill(t, with(api.NBin, "+", hash, y), true)
	}
}

// P5.1: no statement and no `return` begins with the `{` of a hash.
func TestHashesFirst(t *testing.T) {
	y, hash := scalar("y"), with(api.NNewHash, "", number(1))
	for _, row := range []struct {
		n      api.Node
		inside string
		first  bool // whether a hash is first in it
	}{
		{hash, "{1}", true},
		{with(api.NBin, "+", hash, y), "{1} + $y", true},
		{with(api.NBin, "+", with(api.NBin, "+", hash, y), y), "({1} + $y) + $y", false},
		{with(api.NBin, "+", y, hash), "$y + {1}", false},
		{with(api.NBin, "x", hash, hash), "{1} x ({1})", true},
		{with(api.NLogic, "//", hash, y), "{1} // $y", true},
		{with(api.NCond, "", hash, y, y), "{1} ? $y : $y", true},
		{with(api.NCond, "", y, hash, hash), "$y ? {1} : {1}", false},
		{with(api.NMatch, "a", hash), "{1} =~ m/a/", true},
		{with(api.NSubst, "a", hash, text("")), "{1} =~ s/a//", true},
		{with(api.NTrans, "a", hash, text("")), "{1} =~ tr/a//", true},
		{with(api.NMethod, "go", hash), "({1})->go()", false},
		{with(api.NAssign, "", y, hash), "$y = {1}", false},
		{with(api.NNot, "", hash), "!{1}", false},
		{list(hash), "({1},)", false},
		{with(api.NCall, "f", hash), "f({1})", false},
		{with(api.NNewArr, "", hash), "[{1}]", false},
	} {
		first := row.inside
		if row.first {
			first = "(" + first + ")"
		}
		p := append(statement(row.n), with(api.NReturn, "", row.n), with(api.NWhile, "", row.n, leaf(api.NBlock, "")))
		want := first + ";\nreturn " + first + ";\nwhile (" + row.inside + ") {\n}\n"
		if s, e := Print(p); s != want || e != api.OK {
			t.Errorf("%s\nis printed (%d) as\n%s", want, e, s)
		}
		if q, _, e := tree.Parse(want); e != api.OK || !tree.Same(p, q) {
			t.Errorf("%s\nis read (%d) as %v", want, e, q)
		}
	}
}
