package show

import (
	"slices"
	"strings"
	"testing"

	"motley/api"
	"motley/tree"
)

// program returns the program of a source.
func program(t *testing.T, s string) []api.Node {
	t.Helper()
	p, _, e := tree.Parse(s)
	if e != api.OK {
		t.Fatalf("%s: %d", s, e)
	}
	return p
}

// long returns a program that is printed with so many bytes, at least 5 and from 200 on with several statements.
func long(bytes int) []api.Node {
	var p []api.Node
	for bytes > 200 {
		p = append(p, statement(text(strings.Repeat("a", 96)))...)
		bytes -= 100
	}
	return append(p, statement(text(strings.Repeat("b", bytes-4)))...)
}

// wrong is a program that is not valid, and large one with too many nodes.
func wrong() []api.Node { return statement(number(-1)) }

func large() []api.Node { return make([]api.Node, api.MaxNodes+1) }

// P5.1: the errors of Print.
func TestPrintErrors(t *testing.T) {
	for _, row := range []struct {
		p []api.Node
		e api.Errno
	}{
		{nil, api.OK},
		{wrong(), api.ErrArg},
		{large(), api.ErrLarge},
		{long(api.MaxSource), api.OK},
		{long(api.MaxSource + 1), api.ErrLarge},
		{statement(with(api.NMatch, strings.Repeat("/", api.MaxSource), scalar("_"))), api.ErrLarge},
		{append(long(api.MaxSource+1), wrong()...), api.ErrArg},
	} {
		s, e := Print(row.p)
		if e != row.e || e != api.OK && s != "" || len(s) > api.MaxSource {
			t.Errorf("Print is %d and not %d, with %d bytes", e, row.e, len(s))
		}
	}
	if s, _ := Print(long(api.MaxSource)); len(s) != api.MaxSource {
		t.Errorf("%d bytes", len(s))
	}
}

// P5.1: Expr prints the expression at the end of a path, as if it stood alone.
func TestExpr(t *testing.T) {
	p := program(t, "f(1, $x{a}, -$y); { @x[2]; tr/a/b/c; for my $i (3) { $z = sub { 4; }; } return C->go((5,)); s/a/b$c/; }")
	for _, row := range []struct {
		path []int
		want string
		e    api.Errno
	}{
		{[]int{0, 0}, "f(1, $x{a}, -$y)", api.OK},
		{[]int{0, 0, 0}, "1", api.OK},
		{[]int{0, 0, 1}, "$x{a}", api.OK},
		{[]int{0, 0, 1, 0}, "%x", api.OK},
		{[]int{0, 0, 1, 1}, "'a'", api.OK},
		{[]int{0, 0, 2}, "-$y", api.OK},
		{[]int{1, 0, 0, 1}, "(2,)", api.OK},
		{[]int{1, 1, 0, 0}, "$_", api.OK},
		{[]int{1, 1, 0, 1}, "'c'", api.OK},
		{[]int{1, 2, 0}, "(3,)", api.OK},
		{[]int{1, 2, 1, 0, 0, 1}, "sub {\n    4;\n}", api.OK},
		{[]int{1, 3, 0, 0}, "'C'", api.OK},
		{[]int{1, 3, 0, 1}, "(5,)", api.OK},
		{[]int{1, 4, 0, 1}, `"b${c}"`, api.OK},
		{nil, "", api.ErrNone},
		{[]int{2}, "", api.ErrNone},
		{[]int{-1}, "", api.ErrNone},
		{[]int{0, 0, 3}, "", api.ErrNone},
		{[]int{0, 0, 0, 0}, "", api.ErrNone},
		{[]int{0}, "", api.ErrType},
		{[]int{1}, "", api.ErrType},
		{[]int{1, 2, 1}, "", api.ErrType},
		{[]int{1, 2, 1, 0, 0, 1, 0}, "", api.ErrType},
	} {
		if s, e := Expr(p, row.path); s != row.want || e != row.e {
			t.Errorf("at %v is %q, %d", row.path, s, e)
		}
	}
}

// P5.1: the errors of Expr in their order; a large program may have an expression that is not too large.
func TestExprErrors(t *testing.T) {
	most := statement(with(api.NMatch, strings.Repeat("a", api.MaxSource-3), scalar("_")))
	more := statement(with(api.NMatch, strings.Repeat("a", api.MaxSource-2), scalar("_")))
	for _, row := range []struct {
		p    []api.Node
		path []int
		e    api.Errno
	}{
		{wrong(), nil, api.ErrArg},
		{large(), nil, api.ErrLarge},
		{more, nil, api.ErrNone},
		{more, []int{0}, api.ErrType},
		{more, []int{0, 0}, api.ErrLarge},
		{more, []int{0, 0, 0}, api.OK},
		{most, []int{0, 0}, api.OK},
		{long(api.MaxSource + 1), []int{0, 0}, api.OK},
	} {
		s, e := Expr(row.p, row.path)
		if e != row.e || (e == api.OK) != (s != "") {
			t.Errorf("at %v is %.20q, %d", row.path, s, e)
		}
	}
}

// P5.1: Format and IsFormatted, and their errors.
func TestFormat(t *testing.T) {
	for _, row := range []struct {
		source, want string
		formatted    bool
		e            api.Errno
	}{
		{"", "", true, api.OK},
		{"$x=1+2*3;", "$x = (1 + (2 * 3));\n", false, api.OK},
		{"$x = (1 + (2 * 3));\n", "$x = (1 + (2 * 3));\n", true, api.OK},
		{"$x = (1 + (2 * 3));", "$x = (1 + (2 * 3));\n", false, api.OK},
		{"$x = (1 + (2 * 3));\n\n", "$x = (1 + (2 * 3));\n", false, api.OK},
		{`print("a$b");`, "print(\"a${b}\");\n", false, api.OK},
		{`print "a$b";`, "", false, api.ErrSyntax},
		{"$x = ~1;", "", false, api.ErrSyntax},
		{strings.Repeat(" ", api.MaxSource+1), "", false, api.ErrLarge},
		{strings.Repeat("1;", api.MaxNodes/2+1), "", false, api.ErrLarge},
		{"m'" + strings.Repeat("/", api.MaxSource-4) + "';", "", false, api.ErrLarge},
	} {
		if s, e := Format(row.source); s != row.want || e != row.e {
			t.Errorf("%.20s is printed (%d) as %.20s", row.source, e, s)
		}
		if is, e := IsFormatted(row.source); is != row.formatted || e != row.e {
			t.Errorf("%.20s: %v, %d", row.source, is, e)
		}
	}
}

// P5.2: Lines has the first lines of statements, also behind blocks and texts of several lines.
func TestLines(t *testing.T) {
	for _, row := range []struct {
		p    []api.Node
		want []int
		e    api.Errno
	}{
		{nil, nil, api.OK},
		{program(t, "f();"), []int{1}, api.OK},
		{program(t, "f();g();if(1){f();}else{}sub f{return sub{1;};}'a\nb';m/a\n\n/;tr/a\n/\n/;h();"), []int{1, 2, 3, 7, 12, 13, 16, 19}, api.OK},
		{long(350), []int{1, 2, 3}, api.OK},
		{wrong(), nil, api.ErrArg},
		{large(), nil, api.ErrLarge},
		{long(api.MaxSource + 1), nil, api.ErrLarge},
	} {
		if l, e := Lines(row.p); !slices.Equal(l, row.want) || e != row.e {
			t.Errorf("%v: %v, %d", row.p, l, e)
		}
	}
}

// P5.2: Differ has the numbers of the statements that are different.
func TestDiffer(t *testing.T) {
	for _, row := range []struct {
		p, q string
		want []int
	}{
		{"", "", nil},
		{"f();", "f() ;", nil},
		{"f();", "g();", []int{0}},
		{"f(); g(); h();", "f(); h(); h();", []int{1}},
		{"f(); g();", "f();", []int{1}},
		{"f();", "g(); g(); g();", []int{0, 1, 2}},
		{"", "f(); g();", []int{0, 1}},
		{"f(); g();", "", []int{0, 1}},
		{"g(); f();", "f(); g(); f();", []int{0, 1, 2}},
		{"sub f { 1; } h();", "sub f { 2; } h();", []int{0}},
	} {
		if l, e := Differ(program(t, row.p), program(t, row.q)); !slices.Equal(l, row.want) || e != api.OK {
			t.Errorf("%s and %s: %v, %d", row.p, row.q, l, e)
		}
	}
	for _, row := range []struct {
		p, q []api.Node
		e    api.Errno
	}{
		{wrong(), nil, api.ErrArg},
		{nil, wrong(), api.ErrArg},
		{large(), wrong(), api.ErrLarge},
		{wrong(), large(), api.ErrArg},
		{nil, large(), api.ErrLarge},
	} {
		if l, e := Differ(row.p, row.q); len(l) > 0 || e != row.e {
			t.Errorf("%d instead of %d", e, row.e)
		}
	}
	// Programs may be too large for Print.
	if l, e := Differ(long(api.MaxSource+1), long(api.MaxSource+101)); !slices.Equal(l, []int{39, 40}) || e != api.OK {
		t.Errorf("%v, %d", l, e)
	}
}

// P5.2: Inter, and its errors.
func TestInter(t *testing.T) {
	x, most := scalar("x"), strings.Repeat("a", api.MaxText)
	many := make([]api.Node, api.MaxText/2)
	for i := range many {
		many[i] = scalar("1")
	}
	for _, row := range []struct {
		n    api.Node
		want string
		e    api.Errno
	}{
		{text(""), "", api.OK},
		{text("a'b/"), "a'b/", api.OK},
		{text("\"\\$@\n\t\u00e4[{"), `\"\\\$\@\n\t\x{e4}[{`, api.OK},
		{with(api.NJoin, "", x), "${x}", api.OK},
		{with(api.NJoin, "", x, text("[0]")), `${x}\[0]`, api.OK},
		{with(api.NJoin, "", x, text("{")), `${x}\{`, api.OK},
		{with(api.NJoin, "", x, text("a[")), `${x}a[`, api.OK},
		{with(api.NJoin, "", text("[a"), scalar("&"), leaf(api.NArray, "x")), "[a$&@{x}", api.OK},
		{x, "", api.ErrType},
		{api.Node{}, "", api.ErrType},
		{number(-1), "", api.ErrType},
		{with(api.NExpr, "", text("a")), "", api.ErrType},
		{text("\xff"), "", api.ErrArg},
		{api.Node{Op: api.NStr, S: "a", T: "b"}, "", api.ErrArg},
		{api.Node{Op: api.NStr, S: "a", N: 1}, "", api.ErrArg},
		{with(api.NStr, "a", x), "", api.ErrArg},
		{leaf(api.NJoin, ""), "", api.ErrArg},
		{with(api.NJoin, "", text("a")), "", api.ErrArg},
		{with(api.NJoin, "", text(""), x), "", api.ErrArg},
		{with(api.NJoin, "", x, text("a"), text("b")), "", api.ErrArg},
		{with(api.NJoin, "", x, text("\xff")), "", api.ErrArg},
		{with(api.NJoin, "a", x), "", api.ErrArg},
		{api.Node{Op: api.NJoin, T: "a", L: []api.Node{x}}, "", api.ErrArg},
		{api.Node{Op: api.NJoin, N: 1, L: []api.Node{x}}, "", api.ErrArg},
		{with(api.NJoin, "", number(1)), "", api.ErrArg},
		{with(api.NJoin, "", leaf(api.NHash, "x")), "", api.ErrArg},
		{with(api.NJoin, "", scalar("a b")), "", api.ErrArg},
		{with(api.NJoin, "", leaf(api.NIndex, "")), "", api.ErrArg},
		{with(api.NJoin, "", with(api.NIndex, "", leaf(api.NArray, "x"), number(-1))), "", api.ErrArg},
		{with(api.NJoin, "", with(api.NKey, "", leaf(api.NHash, "x"), text("a b"))), "", api.ErrArg},
		{with(api.NJoin, "", with(api.NJoin, "", x)), "", api.ErrArg},
		{text(most), most, api.OK},
		{text(most + "a"), "", api.ErrLarge},
		{text(most[1:] + "@"), "", api.ErrLarge},
		{text(most + "\xff"), "", api.ErrArg},
		{with(api.NJoin, "", x, text(most[4:])), "${x}" + most[4:], api.OK},
		{with(api.NJoin, "", x, text(most[3:])), "", api.ErrLarge},
		{with(api.NJoin, "", x, text(most+"a")), "", api.ErrLarge},
		{with(api.NJoin, "", text(most+"a")), "", api.ErrArg},
		{with(api.NJoin, "", many...), strings.Repeat("$1", len(many)), api.OK},
		{with(api.NJoin, "", append(many, x)...), "", api.ErrLarge},
	} {
		if s, e := Inter(row.n); s != row.want || e != row.e {
			t.Errorf("%.40v: %.40q, %d", row.n, s, e)
		}
	}
}
