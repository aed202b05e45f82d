package lex

import (
	"testing"

	"motley/api"
)

// P3.1: texts with and without interpolation.
func TestTexts(t *testing.T) {
	checkLex(t, []lexCase{
		{`''`, []api.Token{str("")}},
		{`'a"b'`, []api.Token{str(`a"b`)}},
		{`'a\'b\\c\nd'`, []api.Token{str(`a'b\c\nd`)}},
		{`'\\\\' . '\\'`, []api.Token{str(`\\`), sign("."), str(`\`)}},
		{"'a\nb'", []api.Token{str("a\nb")}},
		{"'# no comment'", []api.Token{str("# no comment")}},
		{`q(a(b)c)`, []api.Token{str("a(b)c")}},
		{`q(a\)b\(c\\d\]e)`, []api.Token{str(`a)b(c\d\]e`)}},
		{`q[a[]b]`, []api.Token{str("a[]b")}},
		{`q{a{(}}`, []api.Token{str("a{(}")}},
		{`q<a<b>>`, []api.Token{str("a<b>")}},
		{`q/a\/b/`, []api.Token{str("a/b")}},
		{`q!a\!b(!`, []api.Token{str("a!b(")}},
		{`q|a\|b|`, []api.Token{str("a|b")}},
		{`q~a\~b~`, []api.Token{str("a~b")}},
		{`q'a\'b'`, []api.Token{str("a'b")}},
		{`q"a\"b"`, []api.Token{str(`a"b`)}},
		{`q (a)`, []api.Token{word("q"), sign("("), word("a"), sign(")")}},
		{`q)`, []api.Token{word("q"), sign(")")}},
		{`q=>1`, []api.Token{word("q"), sign("=>"), number("1")}},
		{`$x{s}`, []api.Token{variable("$x"), brace("{", 2), word("s"), brace("}", 2)}},
		{`qx(a)`, []api.Token{word("qx"), sign("("), word("a"), sign(")")}},
		{`""`, []api.Token{raw("")}},
		{`"a\"b\\c\nd$x"`, []api.Token{raw(`a\"b\\c\nd$x`)}},
		{`qq(a"b\"c\)d\(e\\f\'g)`, []api.Token{raw(`a\"b\"c)d(e\\f\'g`)}},
		{`qq(\\"\\\")`, []api.Token{raw(`\\\"\\\"`)}},
		{`qq"a\"b"`, []api.Token{raw(`a\"b`)}},
		{`qq!a\!b\/!`, []api.Token{raw(`a!b\/`)}},
		{`qq{a{b}\}}`, []api.Token{raw(`a{b}}`)}},
		{`qq/a\/b/`, []api.Token{raw(`a/b`)}},
		{`qq'a\'b"'`, []api.Token{raw(`a'b\"`)}},
		{`qw(a b)`, []api.Token{words("a b")}},
		{"qw(  a\tb\n\n c )", []api.Token{words("a b c")}},
		{`qw()`, []api.Token{words("")}},
		{`qw( )`, []api.Token{words("")}},
		{`qw/a\/b \\ \n/`, []api.Token{words(`a/b \ \n`)}},
		{`qw[a\ b]`, []api.Token{words(`a\ b`)}},
	})
}

// P3.1: patterns, replacements and transliterations.
func TestPatterns(t *testing.T) {
	checkLex(t, []lexCase{
		{`/a/`, []api.Token{pattern("a", "")}},
		{`//`, []api.Token{pattern("", "")}},
		{`(//=`, []api.Token{sign("("), pattern("", ""), sign("=")}},
		{`/a\/b\\\.c/`, []api.Token{pattern(`a/b\\\.c`, "")}},
		{`m/a/`, []api.Token{pattern("a", "")}},
		{`m!a\!b\/c/d!`, []api.Token{pattern(`a\!b/c/d`, "")}},
		{`m{a{2}\}}`, []api.Token{pattern(`a{2}\}`, "")}},
		{`m(\\/(a))`, []api.Token{pattern(`\\/(a)`, "")}},
		{`m'a$'`, []api.Token{pattern(`a$`, "")}},
		{`m"\""`, []api.Token{pattern(`\"`, "")}},
		{`/a/imsxg`, []api.Token{pattern("a", "imsxg")}},
		{`m/a/ig`, []api.Token{pattern("a", "ig")}},
		{`m/a/gi`, []api.Token{pattern("a", "g"), word("i")}},
		{`m/a/ii`, []api.Token{pattern("a", "i"), word("i")}},
		{`m/a/ g`, []api.Token{pattern("a", ""), word("g")}},
		{`m/a/cdr`, []api.Token{pattern("a", ""), word("cdr")}},
		{`m/a/ge`, []api.Token{pattern("a", "g"), word("e")}},
		{`s/a/b/`, []api.Token{subst("a", "b", "")}},
		{`s///`, []api.Token{subst("", "", "")}},
		{`s/a\/b\./c\/d\$"\"/imsxg`, []api.Token{subst(`a/b\.`, `c/d\$\"\"`, "imsxg")}},
		{`s{a{1}\/}{b{2}\}\/}g`, []api.Token{subst(`a{1}/`, `b{2}}/`, "g")}},
		{`s{a} {b}`, []api.Token{subst("a", "b", "")}},
		{"s(a)\t\n /b/x", []api.Token{subst("a", "b", "x")}},
		{`s[a]'b\'c'`, []api.Token{subst("a", "b'c", "")}},
		{`s<a>"b\"c"`, []api.Token{subst("a", `b\"c`, "")}},
		{`s{a}(b\)\})`, []api.Token{subst("a", `b)\}`, "")}},
		{`s!a!b\!c!`, []api.Token{subst("a", "b!c", "")}},
		{`s|a|b\\\|c|`, []api.Token{subst("a", `b\\|c`, "")}},
		{`s~a~ ~`, []api.Token{subst("a", " ", "")}},
		{`s'a'b'`, []api.Token{subst("a", "b", "")}},
		{`s"a"b\""`, []api.Token{subst("a", `b\"`, "")}},
		{`tr/a-z/A-Z/`, []api.Token{trans("a-z", "A-Z", "")}},
		{`tr/a\/\\\-/b\/"/cdr`, []api.Token{trans(`a/\\-`, `b/"`, "cdr")}},
		{`tr(a\))[b\]]dr`, []api.Token{trans("a)", "b]", "dr")}},
		{`tr{a} /b\//c`, []api.Token{trans("a", "b/", "c")}},
		{`tr/a/b/rd`, []api.Token{trans("a", "b", "r"), word("d")}},
		{`tr/a/b/g`, []api.Token{trans("a", "b", ""), word("g")}},
		{`$x =~ tr/a/b/r`, []api.Token{variable("$x"), sign("=~"), trans("a", "b", "r")}},
		{`tr=>1`, []api.Token{word("tr"), sign("=>"), number("1")}},
	})
	// Pairs of backslashes stay pairs.
	checkLex(t, []lexCase{{`tr/\\\\/\\/`, []api.Token{trans(`\\`, `\`, "")}}})
}

// P3.1: heredocs, and where the source goes on behind their lines.
func TestHeredocs(t *testing.T) {
	checkLex(t, []lexCase{
		{"<<E . \"b\"\nt\nE\n", []api.Token{raw("t\n"), sign("."), raw("b")}},
		{"<<E . \"b\"\nt\nE", []api.Token{raw("t\n"), sign("."), raw("b")}},
		{"<<E\nE\n", []api.Token{raw("")}},
		{"<<E;\n E\nEE\nE \n\nE\n1", []api.Token{raw(" E\nEE\nE \n\n"), sign(";"), number("1")}},
		{"<<'E'\na\\\\b\"'$x\nE\n", []api.Token{str("a\\\\b\"'$x\n")}},
		{"<<\"E\"\na\"b\\\"c\\\\\"$x\\n\nE\n", []api.Token{raw("a\\\"b\\\"c\\\\\\\"$x\\n\n")}},
		{"<<E::f\nE\nE::f\n", []api.Token{raw("E\n")}},
		{"<<_\n_\n", []api.Token{raw("")}},
		{"<<E # <<F\nt\nE\n1", []api.Token{raw("t\n"), number("1")}},
		{"f(<<A, <<'B', 1);\na\nA\nb\nB\ng", []api.Token{word("f"), sign("("), raw("a\n"), sign(","), str("b\n"), sign(","), number("1"), sign(")"), sign(";"), word("g")}},
		{"<<A . <<A\n1\nA\n2\nA\n", []api.Token{raw("1\n"), sign("."), raw("2\n")}},
		{"<<A . <<B\nB\nA\nA\nB\n", []api.Token{raw("B\n"), sign("."), raw("A\n")}},
		// A quote that goes over the end of the line goes on behind the lines of its heredocs.
		{"<<E . 'a\nt\nE\nb'", []api.Token{raw("t\n"), sign("."), str("a\nb")}},
		{"<<E . qw(a\nt\nE\nb) . 1", []api.Token{raw("t\n"), sign("."), words("a b"), sign("."), number("1")}},
		{"<<E . s(a)\nt\nE\n(b)", []api.Token{raw("t\n"), sign("."), subst("a", "b", "")}},
		{"<<A . 'x\na\nA\ny' . <<B\nb\nB\n;", []api.Token{raw("a\n"), sign("."), str("x\ny"), sign("."), raw("b\n"), sign(";")}},
		{"<<E . 'a\\\nt\nE\nb'", []api.Token{raw("t\n"), sign("."), str("a\\\nb")}},
		// What is no heredoc.
		{"1 <<E", []api.Token{number("1"), sign("<"), sign("<"), word("E")}},
		{"<< E", []api.Token{sign("<"), sign("<"), word("E")}},
		{"<<1", []api.Token{sign("<"), sign("<"), number("1")}},
		{"<<'a b'", []api.Token{sign("<"), sign("<"), str("a b")}},
		{"<<'abcdefghijklm'", []api.Token{sign("<"), sign("<"), str("abcdefghijklm")}},
		{"<<''", []api.Token{sign("<"), sign("<"), str("")}},
		{"<<\" E\"", []api.Token{sign("<"), sign("<"), raw(" E")}},
		{"<<$x", []api.Token{sign("<"), sign("<"), variable("$x")}},
		{"'<<E'", []api.Token{str("<<E")}},
		// The text of a quote may look like a heredoc's lines.
		{"<<E . q(\nt\nE\n<<F)", []api.Token{raw("t\n"), sign("."), str("\n<<F")}},
	})
}
