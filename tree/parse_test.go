package tree

import (
	"strings"
	"testing"

	"motley/api"
	"motley/lex"
)

// checkParse checks what programs of sources are, in their short form.
func checkParse(t *testing.T, cases map[string]string) {
	t.Helper()
	for s, want := range cases {
		p, n, e := Parse(s)
		tokens, _, _ := lex.Lex(s)
		if got := forms(p); got != want || n != len(tokens) || e != api.OK {
			t.Errorf("Parse of %q is %s (%d, %d), not %s", s, got, n, e, want)
		}
		if e := Validate(p); e != api.OK {
			t.Errorf("what Parse makes of %q is not valid (%d)", s, e)
		}
	}
}

// checkExprs checks what expressions of sources are.
func checkExprs(t *testing.T, cases map[string]string) {
	t.Helper()
	for s, want := range cases {
		x, n, e := ParseExpr(s)
		tokens, _, _ := lex.Lex(s)
		if got := form(x); got != want || n != len(tokens) || e != api.OK {
			t.Errorf("ParseExpr of %q is %s (%d, %d), not %s", s, got, n, e, want)
		}
		if e := Validate(statement(x)); e != api.OK {
			t.Errorf("what ParseExpr makes of %q is not valid (%d)", s, e)
		}
	}
}

// P4.1: statements.
func TestStatements(t *testing.T) {
	checkParse(t, map[string]string{
		"":                                      "",
		";;":                                    "",
		"1;":                                    "(Expr (Num 1))",
		"{}":                                    "Block",
		"{ 1; ; { 2; } }":                       "(Block (Expr (Num 1)) (Block (Expr (Num 2))))",
		"L: {}":                                 "(Block |L)",
		"sub f { 1; }":                          "(Define `f` (Block (Expr (Num 1))))",
		"sub A::f {}":                           "(Define `A::f` Block)",
		"sub { 1; };":                           "(Expr (Sub (Block (Expr (Num 1)))))",
		"package A::b;":                         "(Package `A::b`)",
		"if (1) {}":                             "(If (Num 1) Block)",
		"if (1) {} else { 2; }":                 "(If (Num 1) Block (Block (Expr (Num 2))))",
		"if (1) {} elsif (2) {} elsif (3) {}":   "(If (Num 1) Block (Num 2) Block (Num 3) Block)",
		"unless (1) {} elsif (2) {} else {}":    "(If (Not (Num 1)) Block (Num 2) Block Block)",
		"while (1) {}":                          "(While (Num 1) Block)",
		"L: until (1) {}":                       "(While |L (Not (Num 1)) Block)",
		"for () {}":                             "(For `_` List Block)",
		"for (1) {}":                            "(For `_` (List (Num 1)) Block)",
		"for ((1, 2)) {}":                       "(For `_` (List (List (Num 1) (Num 2))) Block)",
		"L: for my $x (1, @y,) {}":              "(For x|L 1 (List (Num 1) (Array `y`)) Block)",
		"return;":                               "Return",
		"return 1;":                             "(Return (Num 1))",
		"return (1, 2) or 3;":                   "(Return (Logic `||` (List (Num 1) (Num 2)) (Num 3)))",
		"last;":                                 "(Leave `last`)",
		"next L;":                               "(Leave next|L)",
		"BEGIN { 1; } END {}":                   "(Phase `BEGIN` (Block (Expr (Num 1)))) (Phase `END` Block)",
		"f() if 1;":                             "(If (Num 1) (Block (Expr (Call `f`))))",
		"f() unless $x or $y;":                  "(If (Not (Logic `||` (Scalar `x`) (Scalar `y`))) (Block (Expr (Call `f`))))",
		"unless ($x) { f(); }":                  "(If (Not (Scalar `x`)) (Block (Expr (Call `f`))))",
		"eval { die(\"no\"); }; print($@);":     "(Expr (Eval (Block (Expr (Func `die` (Str `no`)))))) (Expr (Func `print` (Scalar `@`)))",
		"my $n = () = f();":                     "(Expr (Assign (My `my` (Scalar `n`)) (Assign List (Call `f`))))",
		"my ($a, @b) = @_;":                     "(Expr (Assign (My `my` 1 (Scalar `a`) (Array `b`)) (Array `_`)))",
		"print(\"a$b[0]c\");":                   "(Expr (Func `print` (Join (Str `a`) (Index (Array `b`) (Num 0)) (Str `c`))))",
		"print(\"a\" . 1 + 2);":                 "(Expr (Func `print` (Bin `+` (Bin `.` (Str `a`) (Num 1)) (Num 2))))",
		"{ local $g = 2; }":                     "(Block (Expr (Assign (My `local` (Scalar `g`)) (Num 2))))",
		"A->new(x => 1);":                       "(Expr (Method `new` (Str `A`) (Str `x`) (Num 1)))",
		"sort { $a <=> $b; } (@a);":             "(Expr (Each `sort` (Block (Expr (Bin `<=>` (Scalar `a`) (Scalar `b`)))) (List (Array `a`))))",
		"for my $i (1 .. 3) { f($i); }":         "(For `i` 1 (List (Bin `..` (Num 1) (Num 3))) (Block (Expr (Call `f` (Scalar `i`)))))",
		"return ({ a => 1 });":                  "(Return (NewHash (Str `a`) (Num 1)))",
		"$x = <<E . 1;\nt$y\nE\nprint(1);":      "(Expr (Assign (Scalar `x`) (Bin `.` (Join (Str `t`) (Scalar `y`) (Str `\n`)) (Num 1)))) (Expr (Func `print` (Num 1)))",
		"_ ( ) ; y: for (_()) { last y; }":      "(Expr (Call `_`)) (For _|y (List (Call `_`)) (Block (Leave last|y)))",
		"sub f { } f() ; { } package P ; # end": "(Define `f` Block) (Expr (Call `f`)) Block (Package `P`)",
	})
}

// P4.1: operators, from those that bind least.
func TestOperators(t *testing.T) {
	checkExprs(t, map[string]string{
		"1 or 2 or 3":         "(Logic `||` (Logic `||` (Num 1) (Num 2)) (Num 3))",
		"1 or 2 and 3":        "(Logic `||` (Num 1) (Logic `&&` (Num 2) (Num 3)))",
		"1 and 2 and 3":       "(Logic `&&` (Logic `&&` (Num 1) (Num 2)) (Num 3))",
		"not not 1 and 2":     "(Logic `&&` (Not (Not (Num 1))) (Num 2))",
		"not $x = 1":          "(Not (Assign (Scalar `x`) (Num 1)))",
		"$x = $y = 1":         "(Assign (Scalar `x`) (Assign (Scalar `y`) (Num 1)))",
		"$x += $y .= 1":       "(Update `+=` (Scalar `x`) (Update `.=` (Scalar `y`) (Num 1)))",
		"1 ? 2 : 3 ? 4 : 5":   "(Cond (Num 1) (Num 2) (Cond (Num 3) (Num 4) (Num 5)))",
		"1 ? $x = 2 : $y = 3": "(Cond (Num 1) (Assign (Scalar `x`) (Num 2)) (Assign (Scalar `y`) (Num 3)))",
		"1 .. 2 || 3":         "(Bin `..` (Num 1) (Logic `||` (Num 2) (Num 3)))",
		"1 || 2 // 3 && 4":    "(Logic `//` (Logic `||` (Num 1) (Num 2)) (Logic `&&` (Num 3) (Num 4)))",
		"1 && 2 & 3":          "(Logic `&&` (Num 1) (Bin `&` (Num 2) (Num 3)))",
		"1 & 2 | 3 ^ 4":       "(Bin `^` (Bin `|` (Bin `&` (Num 1) (Num 2)) (Num 3)) (Num 4))",
		"1 | 2 == 3":          "(Bin `|` (Num 1) (Bin `==` (Num 2) (Num 3)))",
		"1 == 2 < 3":          "(Bin `==` (Num 1) (Bin `<` (Num 2) (Num 3)))",
		"1 < 2 + 3":           "(Bin `<` (Num 1) (Bin `+` (Num 2) (Num 3)))",
		"1 - 2 . 3 + 4":       "(Bin `+` (Bin `.` (Bin `-` (Num 1) (Num 2)) (Num 3)) (Num 4))",
		"1 + 2 * 3 x 4":       "(Bin `+` (Num 1) (Bin `x` (Bin `*` (Num 2) (Num 3)) (Num 4)))",
		"2 * $x =~ /a/":       "(Bin `*` (Num 2) (Match `a` (Scalar `x`)))",
		"-$x =~ /a/":          "(Match `a` (Neg (Scalar `x`)))",
		"! - \\ 1":            "(Not (Neg (Ref (Num 1))))",
		"-$x++":               "(Neg (Inc `x++` (Scalar `x`)))",
		"-++$x":               "(Neg (Inc `++x` (Scalar `x`)))",
		"--$x - $y--":         "(Bin `-` (Inc `--x` (Scalar `x`)) (Inc `x--` (Scalar `y`)))",
		"\\$x->[0]":           "(Ref (Index (Deref `@` (Scalar `x`)) (Num 0)))",
		"(1 . 2) * 3":         "(Bin `*` (Bin `.` (Num 1) (Num 2)) (Num 3))",
	})
	for _, op := range strings.Fields(".. & | ^ == != <=> eq ne cmp < > <= >= lt gt le ge + - . * / % x") {
		checkExprs(t, map[string]string{"1 " + op + " 2": "(Bin `" + op + "` (Num 1) (Num 2))"})
	}
	for _, op := range []string{"||", "&&", "//"} {
		checkExprs(t, map[string]string{"1 " + op + " 2": "(Logic `" + op + "` (Num 1) (Num 2))"})
	}
	for _, op := range strings.Fields("+= -= *= /= %= .= ||= &&= //=") {
		checkExprs(t, map[string]string{"$x " + op + " 2": "(Update `" + op + "` (Scalar `x`) (Num 2))"})
	}
}

// P4.1: terms.
func TestTerms(t *testing.T) {
	checkExprs(t, map[string]string{
		"0":                      "(Num 0)",
		"999999999999999":        "(Num 999999999999999)",
		"'a$b'":                  "(Str `a$b`)",
		"\"\"":                   "(Str ``)",
		"\"a$b\"":                "(Join (Str `a`) (Scalar `b`))",
		"qw( a  $b )":            "(List (Str `a`) (Str `$b`))",
		"qw()":                   "List",
		"/a/i":                   "(Match a|i (Scalar `_`))",
		"$x =~ m/a/":             "(Match `a` (Scalar `x`))",
		"$x !~ m/a/":             "(Not (Match `a` (Scalar `x`)))",
		"s/a/b/":                 "(Subst `a` (Scalar `_`) (Str `b`))",
		"$x =~ s/a/b$y/g":        "(Subst a|g (Scalar `x`) (Join (Str `b`) (Scalar `y`)))",
		"$x !~ s/a//":            "(Not (Subst `a` (Scalar `x`) (Str ``)))",
		"tr/a-c/d/":              "(Trans a-c|d (Scalar `_`) (Str ``))",
		"f() =~ tr/a//cd":        "(Trans `a` (Call `f`) (Str `cd`))",
		"()":                     "List",
		"(1)":                    "(Num 1)",
		"((1))":                  "(Num 1)",
		"(1,)":                   "(List (Num 1))",
		"(1, 2 => 3,)":           "(List (Num 1) (Num 2) (Num 3))",
		"((1, 2), ())":           "(List (List (Num 1) (Num 2)) List)",
		"($x) = 1":               "(Assign (List (Scalar `x`)) (Num 1))",
		"(($x)) = 1":             "(Assign (List (Scalar `x`)) (Num 1))",
		"($x) == 1":              "(Bin `==` (Scalar `x`) (Num 1))",
		"($x) += 1":              "(Update `+=` (Scalar `x`) (Num 1))",
		"[]":                     "NewArr",
		"[1, [2,]]":              "(NewArr (Num 1) (NewArr (Num 2)))",
		"(1, {a => 1, b => {}})": "(List (Num 1) (NewHash (Str `a`) (Num 1) (Str `b`) NewHash))",
		"(if => 1, x => 2, print => 3, a::b => 4, q => 5)": "(List (Str `if`) (Num 1) (Str `x`) (Num 2) (Str `print`) (Num 3) (Str `a::b`) (Num 4) (Str `q`) (Num 5))",
		"(1 x x => 2)":            "(List (Bin `x` (Num 1) (Str `x`)) (Num 2))",
		"(-a => my => 1)":         "(List (Neg (Str `a`)) (Str `my`) (Num 1))",
		"(1 +\n sort # c\n => 2)": "(List (Bin `+` (Num 1) (Str `sort`)) (Num 2))",
		"my $x":                   "(My `my` (Scalar `x`))",
		"our @x":                  "(My `our` (Array `x`))",
		"my (%x)":                 "(My `my` 1 (Hash `x`))",
		"our ($x, @if, %print)":   "(My `our` 1 (Scalar `x`) (Array `if`) (Hash `print`))",
		"local $_":                "(My `local` (Scalar `_`))",
		"local @A::b":             "(My `local` (Array `A::b`))",
		"local $x[1]{a}":          "(My `local` (Key (Deref `%` (Index (Array `x`) (Num 1))) (Str `a`)))",
		"local @{$x}{1}":          "(My `local` (Keys (Deref `%` (Scalar `x`)) (List (Num 1))))",
		"local ($x)":              "(My `local` (Scalar `x`))",
		"local ($x) = 1":          "(Assign (My `local` (List (Scalar `x`))) (Num 1))",
		"local ($x, (%y, @z[1]))": "(My `local` (List (Scalar `x`) (List (Hash `y`) (Slice (Array `z`) (List (Num 1))))))",
		"local ()":                "(My `local` List)",
		"sub {}":                  "(Sub Block)",
		"do { 1; }":               "(Do (Block (Expr (Num 1))))",
		"eval { return; }":        "(Eval (Block Return))",
		"map { $_; } (1, 2)":      "(Each `map` (Block (Expr (Scalar `_`))) (List (Num 1) (Num 2)))",
		"grep {} ()":              "(Each `grep` Block List)",
		"sort { 1; } ((1, 2))":    "(Each `sort` (Block (Expr (Num 1))) (List (List (Num 1) (Num 2))))",
		"f()":                     "(Call `f`)",
		"A::f(1, (2, 3),)":        "(Call `A::f` (Num 1) (List (Num 2) (Num 3)))",
		"sub {}->()":              "(CallRef (Sub Block))",
	})
}

// P4.1: variables, elements, slices, what is referred to, and calls.
func TestPosts(t *testing.T) {
	checkExprs(t, map[string]string{
		"$x":              "(Scalar `x`)",
		"$1":              "(Scalar `1`)",
		"$@":              "(Scalar `@`)",
		"$&":              "(Scalar `&`)",
		"@_":              "(Array `_`)",
		"%if":             "(Hash `if`)",
		"$x[1]":           "(Index (Array `x`) (Num 1))",
		"$_[$_[0]]":       "(Index (Array `_`) (Index (Array `_`) (Num 0)))",
		"$x[not 1]":       "(Index (Array `x`) (Not (Num 1)))",
		"$x{a}":           "(Key (Hash `x`) (Str `a`))",
		"$x{if}":          "(Key (Hash `x`) (Str `if`))",
		"$x{print}":       "(Key (Hash `x`) (Str `print`))",
		"$x{A::b}":        "(Key (Hash `x`) (Str `A::b`))",
		"$x{f()}":         "(Key (Hash `x`) (Call `f`))",
		"$x{'a b' . 1}":   "(Key (Hash `x`) (Bin `.` (Str `a b`) (Num 1)))",
		"$x{my $y}":       "(Key (Hash `x`) (My `my` (Scalar `y`)))",
		"@x[1]":           "(Slice (Array `x`) (List (Num 1)))",
		"@x[]":            "(Slice (Array `x`) List)",
		"@x[1, (2, 3),]":  "(Slice (Array `x`) (List (Num 1) (List (Num 2) (Num 3))))",
		"@x{'a'}":         "(Keys (Hash `x`) (List (Str `a`)))",
		"@x{a => b => 1}": "(Keys (Hash `x`) (List (Str `a`) (Str `b`) (Num 1)))",
		"@x{}":            "(Keys (Hash `x`) List)",
		"&x()":            "(CallRef (Scalar `x`))",
		"&if(1, 2)":       "(CallRef (Scalar `if`) (Num 1) (Num 2))",
		"$$x":             "(Deref `$` (Scalar `x`))",
		"@$x":             "(Deref `@` (Scalar `x`))",
		"%$_":             "(Deref `%` (Scalar `_`))",
		"@$1":             "(Deref `@` (Scalar `1`))",
		"${$x[0]}":        "(Deref `$` (Index (Array `x`) (Num 0)))",
		"@{[1]}":          "(Deref `@` (NewArr (Num 1)))",
		"%{ {a => 1} }":   "(Deref `%` (NewHash (Str `a`) (Num 1)))",
		"@{'a' or 1}":     "(Deref `@` (Logic `||` (Str `a`) (Num 1)))",
		"$$x[0]":          "(Index (Deref `@` (Scalar `x`)) (Num 0))",
		"$$x{a}":          "(Key (Deref `%` (Scalar `x`)) (Str `a`))",
		"${$x}{a}":        "(Key (Deref `%` (Scalar `x`)) (Str `a`))",
		"$$1[0]":          "(Index (Deref `@` (Scalar `1`)) (Num 0))",
		"@$x[0, 1]":       "(Slice (Deref `@` (Scalar `x`)) (List (Num 0) (Num 1)))",
		"@{$x}{'a'}":      "(Keys (Deref `%` (Scalar `x`)) (List (Str `a`)))",
		"&$x(1)":          "(CallRef (Scalar `x`) (Num 1))",
		"&{$x[0]}()":      "(CallRef (Index (Array `x`) (Num 0)))",
		"$x->[1]":         "(Index (Deref `@` (Scalar `x`)) (Num 1))",
		"$x->[1][2]":      "(Index (Deref `@` (Index (Deref `@` (Scalar `x`)) (Num 1))) (Num 2))",
		"$x[1][2]":        "(Index (Deref `@` (Index (Array `x`) (Num 1))) (Num 2))",
		"$x{a}{b}[0]":     "(Index (Deref `@` (Key (Deref `%` (Key (Hash `x`) (Str `a`))) (Str `b`))) (Num 0))",
		"$x->{a}":         "(Key (Deref `%` (Scalar `x`)) (Str `a`))",
		"$x->(1)(2)":      "(CallRef (CallRef (Scalar `x`) (Num 1)) (Num 2))",
		"$x->[0](1)":      "(CallRef (Index (Deref `@` (Scalar `x`)) (Num 0)) (Num 1))",
		"$x{a}(1)":        "(CallRef (Key (Hash `x`) (Str `a`)) (Num 1))",
		"$x->(1)->[0]":    "(Index (Deref `@` (CallRef (Scalar `x`) (Num 1))) (Num 0))",
		"$x->f":           "(Method `f` (Scalar `x`))",
		"$x->f->g(1, 2)":  "(Method `g` (Method `f` (Scalar `x`)) (Num 1) (Num 2))",
		"$x->SUPER::f()":  "(Method `SUPER::f` (Scalar `x`))",
		"A::b->f":         "(Method `f` (Str `A::b`))",
		"A->[0]":          "(Index (Deref `@` (Str `A`)) (Num 0))",
		"'a b'->f()":      "(Method `f` (Str `a b`))",
		"f()->{a}":        "(Key (Deref `%` (Call `f`)) (Str `a`))",
		"(1, 2)->f":       "(Method `f` (List (Num 1) (Num 2)))",
		"@x[1]->[0]":      "(Index (Deref `@` (Slice (Array `x`) (List (Num 1)))) (Num 0))",
		"&x()->(2)(3)":    "(CallRef (CallRef (CallRef (Scalar `x`)) (Num 2)) (Num 3))",
	})
}

// P4.1: functions of the language, and what their arguments are.
func TestFunctions(t *testing.T) {
	good := []string{
		"print()", "print(1, 2, 3)", "push(@x)", "push(@$x, 1, 2)", "unshift(@{f()}, 1)", "pop(@x)", "pop(@_)", "shift()", "shift(@x)", "shift(@$x)",
		"keys(%x)", "keys(%$x)", "values(%{$x})", "delete($x[0])", "delete($x{a})", "exists($x->{a}[1])", "defined(@x)", "defined(1)", "scalar(@x)",
		"wantarray()", "join(1)", "join(1, 2, 3)", "split(/a/, 1)", "split($x =~ /a/, 1)", "reverse()", "reverse(1, 2)", "length(1)", "substr(1, 2)",
		"substr(1, 2, 3)", "index(1, 2)", "uc(1)", "lc(1)", "ord(1)", "chr(1)", "ref(1)", "bless(1, 2)", "die()", "die(1, 2)", "weaken($x)",
		"weaken($x[0])", "weaken($$x)", "tie($x, 1)", "tie($x{a}, 1, 2, 3)", "untie($_)", "input()", "guard(1)", "tainted(1)", "abs(1)", "undef()",
		"undef($x)", "undef(@x)", "undef(%$x)", "undef($x[0])", "undef($$x)", "evaluate(1)", "uc((1, 2))", "print((1, 2), 3,)",
	}
	for _, s := range good {
		x, _, e := ParseExpr(s)
		name, _, _ := strings.Cut(s, "(")
		if x.Op != api.NFunc || x.S != name || e != api.OK || Validate(statement(x)) != api.OK {
			t.Errorf("ParseExpr of %q is %s (%d)", s, form(x), e)
		}
	}
	wrong := []string{
		"push()", "push($x, 1)", "push(my @x, 1)", "push((@x), 1, $y,) + push(%x)", "unshift([1])", "pop()", "pop(%x)", "pop(@x, 1)", "pop(@x[1])", "shift(@x, 1)", "shift(1)",
		"keys()", "keys(@x)", "keys($x)", "values(%x, 1)", "values(@x{1})", "delete($x)", "delete(@x[1])", "delete()", "exists(@x)", "exists($$x)",
		"defined()", "scalar(1, 2)", "wantarray(1)", "join()", "split(/a/)", "split('a', 1)", "split($x !~ /a/, 1)", "split(s/a/b/, 1)", "split(/a/, 1, 2)", "length()",
		"substr(1)", "substr(1, 2, 3, 4)", "index(1)", "index(1, 2, 3)", "uc()", "chr(1, 2)", "bless(1)", "weaken(@x)", "weaken(1)", "weaken(my $x)",
		"tie($x)", "tie(@x, 1)", "untie(%$x)", "input(1)", "guard()", "abs(1, 2)", "undef(1)", "undef($x, $y)", "undef(@x[1])", "undef(f())", "evaluate()",
	}
	for _, s := range wrong {
		place := 1
		if strings.Contains(s, " + ") {
			place = 13
		}
		if x, n, e := ParseExpr(s); form(x) != form(api.Node{}) || n != place || e != api.ErrSyntax {
			t.Errorf("ParseExpr of %q is %s (%d, %d), not ErrSyntax at %d", s, form(x), n, e, place)
		}
	}
}

// checkWrong checks that sources are refused at tokens.
func checkWrong(t *testing.T, cases map[string]int) {
	t.Helper()
	for s, place := range cases {
		if p, n, e := Parse(s); len(p) != 0 || n != place || e != api.ErrSyntax {
			t.Errorf("Parse of %q is %s (%d, %d), not ErrSyntax at %d", s, forms(p), n, e, place)
		}
	}
}

// P4.1: the first token that does not fit.
func TestWrongTokens(t *testing.T) {
	checkWrong(t, map[string]int{
		"1":                              1,
		"1 2;":                           1,
		"1 + ;":                          2,
		"}":                              0,
		"{":                              1,
		"{ 1 }":                          2,
		")":                              0,
		"if 1 {}":                        1,
		"if () {}":                       2,
		"if (1) 2;":                      4,
		"if (1) {} else if":              7,
		"if (1) {} else {} elsif (1) {}": 9,
		"else {}":                        0,
		"for $x (1) {}":                  1,
		"for my @x (1) {}":               2,
		"for my $_ (1) {}":               2,
		"for my $A::b (1) {}":            2,
		"for my $1 (1) {}":               2,
		"for (1; 2; 3) {}":               3,
		"while () {}":                    2,
		"L: if (1) {}":                   2,
		"L: M: {}":                       2,
		"L: 1;":                          2,
		"print: {}":                      1,
		"x: {}":                          0,
		"sub f;":                         2,
		"sub if {}":                      1,
		"sub 1":                          1,
		"package;":                       1,
		"package my;":                    1,
		"package A {}":                   2,
		"return 1 if 2;":                 2,
		"return if 2;":                   1,
		"last if 1;":                     1,
		"next L M;":                      2,
		"BEGIN;":                         1,
		"1 if 2 if 3;":                   3,
		"1 < 2 < 3;":                     3,
		"1 == 2 eq 3;":                   3,
		"1 .. 2 .. 3;":                   3,
		"1 ? 2;":                         3,
		"f(1 or 2);":                     3,
		"(not 1);":                       1,
		"(,);":                           1,
		"(1,,);":                         3,
		"(1 =>);":                        3,
		"(1, 2;":                         4,
		"[1);":                           2,
		"$x = not 1;":                    2,
		"$x =~ 1;":                       2,
		"$x =~ $y;":                      2,
		"1 =~;":                          2,
		"007;":                           0,
		"00;":                            0,
		"1234567890123456;":              0,
		"if => 1;":                       1,
		"x => 1;":                        1,
		"(1 x => 2);":                    3,
		"(1 y => 2);":                    2,
		"(if, 1);":                       1,
		"print 1;":                       1,
		"print;":                         1,
		"f;":                             1,
		"f":                              1,
		"(f, 1);":                        2,
		"f 1;":                           1,
		"&x;":                            1,
		"&$x;":                           2,
		"&{$x};":                         4,
		"&x->(1);":                       1,
		"my;":                            1,
		"my $_;":                         1,
		"my $A::b;":                      1,
		"my $1;":                         1,
		"my &x;":                         1,
		"my ();":                         2,
		"my ($x,);":                      4,
		"my ($x => $y);":                 3,
		"my ($x, undef);":                4,
		"our ($x 1);":                    3,
		"local;":                         1,
		"sub;":                           1,
		"do 1;":                          1,
		"eval;":                          1,
		"map (1) (2);":                   1,
		"map { 1; } 2;":                  5,
		"map { 1; };":                    5,
		"$x[];":                          2,
		"$x[1, 2];":                      3,
		"$x{};":                          2,
		"$x {a};":                        1,
		"$x{a . 1};":                     3,
		"$x{if 1};":                      3,
		"$x{'a', 1};":                    3,
		"@x{a};":                         3,
		"@{f};":                          3,
		"$$$x;":                          1,
		"@@x;":                           0,
		"%x[0];":                         1,
		"%x{a};":                         1,
		"%$x[0];":                        2,
		"$1[0];":                         1,
		"$@{a};":                         1,
		"@x[1][0];":                      4,
		"@x[1]{a};":                      4,
		"my $x[0];":                      2,
		"my $x{a};":                      2,
		"($x)[0];":                       3,
		"($x[0])[0];":                    6,
		"[1][0];":                        3,
		"[1]{a};":                        3,
		"f()[0];":                        3,
		"f()(1);":                        3,
		"f(){a};":                        3,
		"$x->(1)[0];":                    5,
		"$x->f(1)(2);":                   6,
		"$x->f[0];":                      3,
		"&x(1)(2);":                      4,
		"$x(1);":                         1,
		"$x->;":                          2,
		"$x->1;":                         2,
		"$x->print();":                   2,
		"$x->$y();":                      2,
		"return {a => 1};":               1,
		"1; {a => 1};":                   4,
	})
	// Nothing is left out or added behind one expression.
	for s, place := range map[string]int{"": 0, "1;": 1, "1 2": 1, "{}": 0, "return 1": 0, "1 if 2": 1, "1 or": 2, "(1": 2} {
		if x, n, e := ParseExpr(s); form(x) != form(api.Node{}) || n != place || e != api.ErrSyntax {
			t.Errorf("ParseExpr of %q is %s (%d, %d), not ErrSyntax at %d", s, form(x), n, e, place)
		}
	}
}

// P4.1: what can stand left of an assignment, and of `++` and `--`.
func TestLeftSides(t *testing.T) {
	single := []string{"$x", "$1", "$x[0]", "$x->{a}", "$$x", "${f()}", "my $x", "our $x", "local $x", "local $x[0]"}
	lists := []string{"@x", "%x", "@$x", "%$x", "@x[1]", "@x{1}", "my @x", "my ($x)", "local @x", "local ($x, $y)", "local @x[1]", "()", "($x, @y)", "($x, ($y, undef()), my $z)", "(undef(),)"}
	never := []string{"1", "'a'", "f()", "$x->f", "&x()", "undef()", "[1]", "\\$x", "-$x", "!$x", "$x++", "/a/", "($x, 1)", "($x, undef($y))", "(f(),)", "(sub {})", "(do {})", "1 + $x", "$x x 2", "shift(@x)"}
	check := func(s string, place int, ok bool) {
		t.Helper()
		_, n, e := ParseExpr(s)
		if ok != (e == api.OK) || !ok && (n != place || e != api.ErrSyntax) {
			t.Errorf("ParseExpr of %q: %d at %d, place %d, %v", s, e, n, place, ok)
		}
	}
	for i, l := range [][]string{single, lists, never} {
		for _, s := range l {
			tokens, _, _ := lex.Lex(s)
			check(s+" = 1", len(tokens), i < 2)
			for _, op := range strings.Fields("+= -= *= /= %= .= ||= &&= //=") {
				check(s+" "+op+" 1", len(tokens), i < 1)
			}
			if binary := s == "1 + $x" || s == "$x x 2"; !binary {
				check("("+s+")++", len(tokens)+2, i < 1)
				check("("+s+")--", len(tokens)+2, i < 1)
				check("1 + ++("+s+")", 2, i < 1)
				check("--("+s+")", 0, i < 1)
			}
		}
	}
	checkWrong(t, map[string]int{
		"local 1;":         0,
		"1 + local f();":   2,
		"local $$x;":       0,
		"local @{$x};":     0,
		"local my $x;":     0,
		"local $x++;":      0,
		"local -$x;":       0,
		"local ($x, 1);":   0,
		"local undef();":   0,
		"local ($x, f();":  7,
		"1 = +;":           1,
		"++1 = 2;":         0,
		"print(1) = +;":    4,
		"push($x, 1) + ];": 1,
		"push($x, +);":     4,
	})
}

// P4.1: the errors of lex.Lex come first, with their second result, and ErrLarge comes at last.
func TestParseErrors(t *testing.T) {
	cases := []struct {
		s     string
		place int
		want  api.Errno
	}{
		{strings.Repeat(" ", api.MaxSource+1), 0, api.ErrLarge},
		{") 'a", 2, api.ErrSyntax},
		{"1 \x00", 2, api.ErrSyntax},
		{strings.Repeat(")", api.MaxTokens+1), 0, api.ErrLarge},
		{strings.Repeat(";", api.MaxTokens), api.MaxTokens, api.OK},
		{strings.Repeat("1;", api.MaxNodes/2), api.MaxNodes, api.OK},
		{strings.Repeat("1;", api.MaxNodes/2+1), 0, api.ErrLarge},
		{strings.Repeat("1;", api.MaxNodes/2) + "return;", 0, api.ErrLarge},
		{strings.Repeat("1;", api.MaxNodes/2+1) + ")", api.MaxNodes + 2, api.ErrSyntax},
		{strings.Repeat("-", 1) + strings.Repeat(" -", api.MaxNest-3) + "1;", api.MaxNest, api.OK},
		{strings.Repeat("- ", api.MaxNest-1) + "1;", 0, api.ErrLarge},
		{strings.Repeat("- ", api.MaxNest-1) + "1", api.MaxNest, api.ErrSyntax},
		{strings.Repeat("{", api.MaxNest) + strings.Repeat("}", api.MaxNest), 2 * api.MaxNest, api.OK},
		{strings.Repeat("{", api.MaxNest+1) + strings.Repeat("}", api.MaxNest+1), 0, api.ErrLarge},
		{strings.Repeat("(", 480) + "1" + strings.Repeat(")", 480) + ";", 962, api.OK},
		{strings.Repeat("{", api.MaxTokens), api.MaxTokens, api.ErrSyntax},
		{strings.Repeat("(", api.MaxTokens), api.MaxTokens, api.ErrSyntax},
		{"print(qq(" + strings.Repeat(`"`, 3900) + "));", 5, api.OK},
	}
	for i, c := range cases {
		p, n, e := Parse(c.s)
		if n != c.place || e != c.want || e != api.OK && p != nil {
			t.Errorf("case %d: Parse of %.30q: %d nodes (%d, %d), not %d, %d", i, c.s, len(p), n, e, c.place, c.want)
		}
	}
	deep := strings.Repeat("- ", api.MaxNest-1)
	for s, want := range map[string]api.Errno{deep + "1": api.OK, deep + "- 1": api.ErrLarge, "[" + strings.Repeat("1,", api.MaxNodes-1) + "]": api.OK, "[" + strings.Repeat("1,", api.MaxNodes) + "]": api.ErrLarge, "'a": api.ErrSyntax} {
		if x, _, e := ParseExpr(s); e != want || e != api.OK && form(x) != form(api.Node{}) {
			t.Errorf("ParseExpr of %.30q: %d, not %d", s, e, want)
		}
	}
}
