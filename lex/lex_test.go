package lex

import (
	"slices"
	"strings"
	"testing"

	"motley/api"
)

// What tokens are, in short: of the kind of the name of the function.
func word(s string) api.Token     { return api.Token{Kind: api.KWord, Text: s} }
func number(s string) api.Token   { return api.Token{Kind: api.KNum, Text: s} }
func variable(s string) api.Token { return api.Token{Kind: api.KVar, Text: s} }
func sign(s string) api.Token     { return api.Token{Kind: api.KSign, Text: s} }
func str(s string) api.Token      { return api.Token{Kind: api.KStr, Text: s} }
func raw(s string) api.Token      { return api.Token{Kind: api.KInter, Text: s} }
func words(s string) api.Token    { return api.Token{Kind: api.KWords, Text: s} }

func pattern(s, flags string) api.Token { return api.Token{Kind: api.KPat, Text: s, More: flags} }

func subst(s, by, flags string) api.Token {
	return api.Token{Kind: api.KSubst, Text: s, Repl: by, More: flags}
}

func trans(s, by, flags string) api.Token {
	return api.Token{Kind: api.KTrans, Text: s, Repl: by, More: flags}
}

func brace(s string, open int) api.Token { return api.Token{Kind: api.KSign, Text: s, Open: open} }

// signsOf returns signs that stand with blanks between them.
func signsOf(s string) []api.Token {
	var l []api.Token
	for _, x := range strings.Fields(s) {
		l = append(l, sign(x))
	}
	return l
}

// lexCase is a source and its tokens, aside from their places.
type lexCase struct {
	s string
	l []api.Token
}

func checkLex(t *testing.T, cases []lexCase) {
	t.Helper()
	for _, c := range cases {
		l, n, e := Lex(c.s)
		if e != api.OK || n != len(c.l) || len(l) != n {
			t.Errorf("Lex of %q: %d tokens (%d, %d), not %d: %+v", c.s, len(l), n, e, len(c.l), l)
			continue
		}
		for i := range l {
			got := l[i]
			got.At = 0
			if got != c.l[i] {
				t.Errorf("Lex of %q: token %d is %+v, not %+v", c.s, i, got, c.l[i])
			}
		}
	}
}

// checkWrong checks that sources are refused at places.
func checkWrong(t *testing.T, cases map[string]int) {
	t.Helper()
	for s, place := range cases {
		if l, n, e := Lex(s); len(l) != 0 || n != place || e != api.ErrSyntax {
			t.Errorf("Lex of %q: %d tokens, %d (%d), not ErrSyntax at %d", s, len(l), n, e, place)
		}
	}
}

// P3.1: words, numbers, variables, and what is between tokens.
func TestPlainTokens(t *testing.T) {
	checkLex(t, []lexCase{
		{"", nil},
		{" \t\n", nil},
		{"# all of it is a comment '", nil},
		{"a #b\n#\n c#d", []api.Token{word("a"), word("c")}},
		{"abc _ a1_ A::b::_c9", []api.Token{word("abc"), word("_"), word("a1_"), word("A::b::_c9")}},
		{"a:: a:b a::1", []api.Token{word("a"), sign(":"), sign(":"), word("a"), sign(":"), word("b"), word("a"), sign(":"), sign(":"), number("1")}},
		{"a:::b", []api.Token{word("a"), sign(":"), sign(":"), sign(":"), word("b")}},
		{"abcdefghijkl", []api.Token{word("abcdefghijkl")}},
		{"a2345::b9012", []api.Token{word("a2345::b9012")}},
		{"0 007 123abc", []api.Token{number("0"), number("007"), number("123"), word("abc")}},
		{"12345678901234567890", []api.Token{number("12345678901234567890")}},
		{"1..2", []api.Token{number("1"), sign(".."), number("2")}},
		{"1.5", []api.Token{number("1"), sign("."), number("5")}},
		{"$a,@b,%c,&d,$A::b", []api.Token{variable("$a"), sign(","), variable("@b"), sign(","), variable("%c"), sign(","), variable("&d"), sign(","), variable("$A::b")}},
		{"$_,@_,%_,&_,$@,$&,$1,$9", []api.Token{variable("$_"), sign(","), variable("@_"), sign(","), variable("%_"), sign(","), variable("&_"), sign(","), variable("$@"), sign(","), variable("$&"), sign(","), variable("$1"), sign(","), variable("$9")}},
		{"$12,$_a", []api.Token{variable("$1"), number("2"), sign(","), variable("$_a")}},
		{"$abcdefghijkl", []api.Token{variable("$abcdefghijkl")}},
		{"$&&$1", []api.Token{variable("$&"), sign("&"), variable("$1")}},
	})
}

// P3.1: all signs, and that the longest one is taken.
func TestSigns(t *testing.T) {
	all := "( ) [ ] , ; : ? \\ = == != < > <= >= <=> + - * % . .. ++ -- += -= *= %= .= ||= &&= || && ! =~ !~ => -> & | ^"
	var cases []lexCase
	for _, s := range strings.Fields(all) {
		cases = append(cases, lexCase{s, []api.Token{sign(s)}})
	}
	for _, s := range []string{"/", "/=", "//=", "//"} {
		cases = append(cases, lexCase{"a" + s, []api.Token{word("a"), sign(s)}})
	}
	checkLex(t, append(cases, []lexCase{
		{"===", signsOf("== =")},
		{"<=>=", signsOf("<=> =")},
		{"....", signsOf(".. ..")},
		{"...", signsOf(".. .")},
		{"+++", signsOf("++ +")},
		{"--->", signsOf("-- ->")},
		{"||||=", signsOf("|| ||=")},
		{"&&&", signsOf("&& &")},
		{"!==", signsOf("!= =")},
		{"!!~", signsOf("! !~")},
		{"=~=", signsOf("=~ =")},
		{"**=", signsOf("* *=")},
		{"<<", signsOf("< <")},
		{"<<<", signsOf("< < <")},
		{"<<=", signsOf("< <=")},
		{"%%=", signsOf("% %=")},
	}...))
}

// P3.1: where a term is expected, and where an operator is.
func TestTermOrOperator(t *testing.T) {
	checkLex(t, []lexCase{
		{"$x / 2", []api.Token{variable("$x"), sign("/"), number("2")}},
		{"f(/2/)", []api.Token{word("f"), sign("("), pattern("2", ""), sign(")")}},
		{"1/2/3", []api.Token{number("1"), sign("/"), number("2"), sign("/"), number("3")}},
		{"'a'/2/3", []api.Token{str("a"), sign("/"), number("2"), sign("/"), number("3")}},
		{"m(a)/2/3", []api.Token{pattern("a", ""), sign("/"), number("2"), sign("/"), number("3")}},
		{"(1)/2/3", []api.Token{sign("("), number("1"), sign(")"), sign("/"), number("2"), sign("/"), number("3")}},
		{"[1]/2/3", []api.Token{sign("["), number("1"), sign("]"), sign("/"), number("2"), sign("/"), number("3")}},
		{"$x{a}/2/3", []api.Token{variable("$x"), brace("{", 2), word("a"), brace("}", 2), sign("/"), number("2"), sign("/"), number("3")}},
		{"({})/2", []api.Token{sign("("), brace("{", 3), brace("}", 3), sign(")"), sign("/"), number("2")}},
		{"={}/2", []api.Token{sign("="), brace("{", 3), brace("}", 3), sign("/"), number("2")}},
		{"{}/2/", []api.Token{brace("{", 1), brace("}", 1), pattern("2", "")}},
		{"$x++/2/3", []api.Token{variable("$x"), sign("++"), sign("/"), number("2"), sign("/"), number("3")}},
		{"$x--/2/3", []api.Token{variable("$x"), sign("--"), sign("/"), number("2"), sign("/"), number("3")}},
		{"++/2/", []api.Token{sign("++"), pattern("2", "")}},
		{"--/2/", []api.Token{sign("--"), pattern("2", "")}},
		{"1 ++ ++ /2", []api.Token{number("1"), sign("++"), sign("++"), sign("/"), number("2")}},
		{"f /2/3", []api.Token{word("f"), sign("/"), number("2"), sign("/"), number("3")}},
		{"1 %x", []api.Token{number("1"), sign("%"), word("x")}},
		{"1 &x", []api.Token{number("1"), sign("&"), word("x")}},
		{"1 + %x", []api.Token{number("1"), sign("+"), variable("%x")}},
		{"1 x%x", []api.Token{number("1"), word("x"), variable("%x")}},
		{"% x", []api.Token{sign("%"), word("x")}},
		{"&&x", []api.Token{sign("&&"), word("x")}},
		{"&& &x", []api.Token{sign("&&"), variable("&x")}},
		{"1 s/2/3", []api.Token{number("1"), word("s"), sign("/"), number("2"), sign("/"), number("3")}},
		{"$x <<E", []api.Token{variable("$x"), sign("<"), sign("<"), word("E")}},
	})
	for _, w := range strings.Fields("return and or not x lt gt le ge eq ne cmp if unless elsif else while until for do eval sub map grep sort my our local") {
		checkLex(t, []lexCase{{w + " /2/", []api.Token{word(w), pattern("2", "")}}})
	}
	for _, w := range strings.Fields("print push package last next Return y q m s X lte foreach BEGIN") {
		checkLex(t, []lexCase{{w + " /2/", []api.Token{word(w), sign("/"), number("2"), sign("/")}}})
	}
}

// P3.1: the signs of terms.
func TestTermSigns(t *testing.T) {
	checkLex(t, []lexCase{
		{"$$x", []api.Token{sign("$"), variable("$x")}},
		{"@$x", []api.Token{sign("@"), variable("$x")}},
		{"%$x", []api.Token{sign("%"), variable("$x")}},
		{"&$x", []api.Token{sign("&"), variable("$x")}},
		{"$$$_", []api.Token{sign("$"), sign("$"), variable("$_")}},
		{"${x}", []api.Token{sign("$"), brace("{", 2), word("x"), brace("}", 2)}},
		{"@{$x}", []api.Token{sign("@"), brace("{", 2), variable("$x"), brace("}", 2)}},
		{"%{$x}", []api.Token{sign("%"), brace("{", 2), variable("$x"), brace("}", 2)}},
		{"&{$x}", []api.Token{sign("&"), brace("{", 2), variable("$x"), brace("}", 2)}},
		{"%${x}", []api.Token{sign("%"), sign("$"), brace("{", 2), word("x"), brace("}", 2)}},
		{"% {}", []api.Token{sign("%"), brace("{", 2), brace("}", 2)}},
		{"& {}", []api.Token{sign("&"), brace("{", 2), brace("}", 2)}},
		{"1 &{}", []api.Token{number("1"), sign("&"), brace("{", 3), brace("}", 3)}},
		{"1 %{}", []api.Token{number("1"), sign("%"), brace("{", 3), brace("}", 3)}},
		{"&&{}", []api.Token{sign("&&"), brace("{", 3), brace("}", 3)}},
		{"$@{x}", []api.Token{variable("$@"), brace("{", 2), word("x"), brace("}", 2)}},
	})
}

// P3.1: how braces are meant.
func TestBraces(t *testing.T) {
	cases := map[string]string{
		"$x{a}":                  "22",
		"@x{a}":                  "22",
		"$x {a}":                 "33",
		"$x\n{a}":                "33",
		"$x#c\n{a}":              "33",
		"$x[0]{a}":               "22",
		"$x[0] {a}":              "33",
		"$x{a}{b}":               "2222",
		"$x{a} {b}":              "2233",
		"$x->{a}":                "22",
		"$x-> {a}":               "22",
		"$x->#c\n{a}":            "22",
		"$x->[0]{a}{b}":          "2222",
		"@{$x}{a}":               "2222",
		"@{$x} {a}":              "2233",
		"%{x}{a}":                "2222",
		"% {x}{a} {b}":           "222233",
		"&\t\n  {x}":             "22",
		"%#c\n{x}":               "22",
		"f(% {x}, & {y})":        "2222",
		"return & {x}":           "22",
		"1 + % {x}":              "22",
		"1 % {x}":                "33",
		"1 %{x}":                 "33",
		"$x & {x}":               "33",
		"$x++ % {x}":             "33",
		"%% {x}":                 "22",
		"%= {x}":                 "33",
		"if ($x) {}":             "11",
		"f(){}":                  "11",
		"{}":                     "11",
		"{{}}":                   "1111",
		"{} {}":                  "1111",
		";{}":                    "11",
		"sub {}":                 "11",
		"sub f{}":                "11",
		"map {1} (2)":            "11",
		"return {}":              "11",
		"x{}":                    "11",
		"f({a => 1})":            "33",
		"({})":                   "33",
		"= {}":                   "33",
		"[{}, {}]":               "3333",
		"= {}{}":                 "3333",
		"1 {}":                   "33",
		"'a' {}":                 "33",
		"L: {}":                  "11",
		"L : {}":                 "11",
		"; L: {}":                "11",
		"{ L: {} }":              "1111",
		"{} L: {}":               "1111",
		"= {} L: {}":             "3333",
		"= { L: {} }":            "3333",
		"$x{ L: {} }":            "2332",
		"1 ? L : {}":             "33",
		"L:: {}":                 "33",
		"$l: {}":                 "33",
		"1: {}":                  "33",
		": {}":                   "33",
		"(L: {})":                "33",
		"}":                      "1",
		"}{}":                    "111",
		"{ $x{a} = {}; { } }}":   "122331111",
		"$x{ {} }":               "2332",
		"{ ; } }":                "111",
		"$x{a}}{}":               "22111",
		"if (1) { f({}); } else": "1331",
	}
	for s, want := range cases {
		l, _, e := Lex(s)
		got := ""
		for _, x := range l {
			if x.Kind == api.KSign && (x.Text == "{" || x.Text == "}") {
				got += string(rune('0' + x.Open))
			} else if x.Open != 0 {
				t.Errorf("%q: %+v has an Open", s, x)
			}
		}
		if got != want || e != api.OK {
			t.Errorf("the braces of %q are %s (%d), not %s", s, got, e, want)
		}
	}
}

// P3.1: the places of tokens, those behind heredocs among them.
func TestPlaces(t *testing.T) {
	cases := map[string][]int{
		" a  12+\n$x#c\n+":          {1, 4, 6, 8, 13},
		"f('a b' .\"c\")":           {0, 1, 2, 8, 9, 12},
		"qw( a ) . s{a} {b}g":       {0, 8, 10},
		"<<E . 1;\nt\nE\n 'x'":      {0, 4, 6, 7, 14},
		"<<A.<<'B'\na\nA\nb\nB\n;;": {0, 3, 4, 18, 19},
	}
	for s, want := range cases {
		l, _, e := Lex(s)
		var got []int
		for _, x := range l {
			got = append(got, x.At)
		}
		if !slices.Equal(got, want) || e != api.OK {
			t.Errorf("the places of %q are %v (%d), not %v", s, got, e, want)
		}
	}
}

// P3.1: the place of the first byte that is wrong.
func TestWrongPlaces(t *testing.T) {
	checkWrong(t, map[string]int{
		"~":                       0,
		"a ~":                     2,
		"1 $x":                    2,
		"f @x":                    2,
		"f 'a'":                   2,
		"f \"a\"":                 2,
		"$":                       0,
		"a = $":                   4,
		"$ x":                     0,
		"$0":                      0,
		"$::x":                    0,
		"$#":                      0,
		"@ x":                     0,
		"@1":                      0,
		"@@":                      0,
		"@&":                      0,
		"@$":                      1,
		"$$":                      1,
		"abcdefghijklm":           0,
		" a23456::b8901":          1,
		"$abcdefghijklm":          0,
		"@abcdefghijklm":          0,
		"%abcdefghijklm":          0,
		"&abcdefghijklm":          0,
		"1 %abcdefghijklm":        3,
		"% abcdefghijklm":         2,
		"a'":                      1,
		"'":                       0,
		"'a\\'":                   0,
		"(\"a":                    1,
		"/a":                      0,
		"a . q(":                  4,
		"q(a(b)":                  0,
		"qq{a\\}":                 0,
		"qw/a":                    0,
		"m<a":                     0,
		"s/a/b":                   0,
		"s/a":                     0,
		"s{a}":                    0,
		"s{a} ":                   0,
		"s{a}b":                   0,
		" s{a}b{c}":               1,
		"s{a} #c\n{b}":            0,
		"s{a}{b":                  0,
		"tr(a)b":                  0,
		"tr/a/":                   0,
		"(<<E":                    1,
		"<<E\n":                   0,
		"<<E\nt\n":                0,
		"<<E\nt\nE t\n E\nEE":     0,
		"<<'E'\n":                 0,
		"<<A . <<B\nA\nb":         6,
		"<<E ~\nt\nE":             4,
		"a\x00":                   1,
		"\r":                      0,
		"a\x1f":                   1,
		"\x7f":                    0,
		"\u00e9":                  0,
		"# \u00e9":                2,
		"'\x00'":                  1,
		"'\x00":                   0,
		"'\x00' ~":                1,
		"~ '\x00'":                0,
		"# \r\n~":                 2,
		"<<E . 1\n\x01\nE":        8,
		"<<E . ~\n\x01\nE":        6,
		"<<E\n\x01\nF":            0,
		"q(\x80 ~":                0,
		"<<abcdefghijklm\nE":      2,
		strings.Repeat("+~", 900): 1,
	})
}

// P3.1: what is too large, and that a wrong byte counts first; the errors of all functions with a source.
func TestLimits(t *testing.T) {
	if l, n, e := Lex(strings.Repeat("~", api.MaxSource+1)); len(l) != 0 || n != 0 || e != api.ErrLarge {
		t.Errorf("too many bytes: %d, %d (%d)", len(l), n, e)
	}
	if _, n, e := Lex(strings.Repeat(" ", api.MaxSource-1) + "1"); n != 1 || e != api.OK {
		t.Errorf("the most bytes: %d (%d)", n, e)
	}
	if _, n, e := Lex(strings.Repeat("+ ", api.MaxTokens)); n != api.MaxTokens || e != api.OK {
		t.Errorf("the most tokens: %d (%d)", n, e)
	}
	if l, n, e := Lex(strings.Repeat("+ ", api.MaxTokens+1)); len(l) != 0 || n != 0 || e != api.ErrLarge {
		t.Errorf("too many tokens: %d, %d (%d)", len(l), n, e)
	}
	if l, n, e := Lex(strings.Repeat("+ ", api.MaxTokens+1) + "~"); len(l) != 0 || n != 2*api.MaxTokens+2 || e != api.ErrSyntax {
		t.Errorf("too many tokens and a wrong byte: %d, %d (%d)", len(l), n, e)
	}
	cases := map[string]api.Errno{
		strings.Repeat("~", api.MaxSource+1):    api.ErrLarge,
		strings.Repeat(";", api.MaxTokens+1):    api.ErrLarge,
		"1 'a'":                                 api.ErrSyntax,
		strings.Repeat(" ", api.MaxSource) + "": api.OK,
	}
	for s, want := range cases {
		if l, e := Terms(s); len(l) != 0 || e != want {
			t.Errorf("Terms of %.10q: %d (%d)", s, len(l), e)
		}
		line, column, e := Where(s, -1)
		if want == api.OK {
			want = api.ErrArg
		}
		if line != 0 || column != 0 || e != want {
			t.Errorf("Where of %.10q: %d, %d (%d)", s, line, column, e)
		}
		if n, e := Kept(s, -1, 0, "~"); n != 0 || e != want {
			t.Errorf("Kept of %.10q: %d (%d)", s, n, e)
		}
	}
}

// P3.1: before which tokens a term is expected.
func TestTerms(t *testing.T) {
	cases := map[string]string{
		"":                          "",
		"$x = 1 + f(2);":            "t-t-t-t--",
		"if ($x) { g(); } /a/":      "ttt--t-t-tt",
		"$x{a}{b} / {a => 1} / 2":   "t-t--t--tt-t--t",
		"$x++ + ++$y":               "t--tt",
		"return not 'a' x 3":        "ttt-t",
		"@{$x}, %$y, $z %$w":        "ttt--tt-t-t",
		"m/a/ ? s/a/b/ : tr/a/b/":   "t-t-t",
		"print(<<E) . 1;\nt\nE\n$x": "t-t--t-t",
		"} ) ] 1":                   "tt--",
	}
	for s, want := range cases {
		l, e := Terms(s)
		got := ""
		for _, is := range l {
			if is {
				got += "t"
			} else {
				got += "-"
			}
		}
		if got != want || e != api.OK {
			t.Errorf("Terms of %q are %s (%d), not %s", s, got, e, want)
		}
	}
}

// P3.3: what is a word.
func TestIsWord(t *testing.T) {
	for s, want := range map[string]bool{
		"": false, "a": true, "_": true, "Z": true, "a1": true, "1a": false, "a b": false, " a": false, "a ": false, "$a": false,
		"abcdefghijkl": true, "abcdefghijklm": false, "a::b": true, "a::": false, "::a": false, "a:b": false, "a::1": false, "a::_": true,
		"a:::b": false, "a::b::c": true, "a::b:": false, "a1234567::b8": true, "a12345678::b8": false, "a-b": false, "\u00e9": false, "a\x00": false,
		"if": true, "q": true,
	} {
		if IsWord(s) != want {
			t.Errorf("IsWord of %q is not %v", s, want)
		}
	}
}

// P3.3: lines and columns.
func TestWhere(t *testing.T) {
	s := "ab\n\n c\n"
	want := [][2]int{{1, 1}, {1, 2}, {1, 3}, {2, 1}, {3, 1}, {3, 2}, {3, 3}, {4, 1}}
	for place, w := range want {
		if line, column, e := Where(s, place); line != w[0] || column != w[1] || e != api.OK {
			t.Errorf("Where of %d is %d, %d (%d)", place, line, column, e)
		}
	}
	if line, column, e := Where("", 0); line != 1 || column != 1 || e != api.OK {
		t.Errorf("Where in nothing is %d, %d (%d)", line, column, e)
	}
	for _, place := range []int{-1, len(s) + 1, -1 << 63, 1<<63 - 1} {
		if line, column, e := Where(s, place); line != 0 || column != 0 || e != api.ErrArg {
			t.Errorf("Where of %d is %d, %d (%d)", place, line, column, e)
		}
	}
}

// P3.3: how many tokens stay.
func TestKept(t *testing.T) {
	cases := []struct {
		s        string
		from, to int
		by       string
		n        int
		e        api.Errno
	}{
		{"a b c", 0, 0, "", 3, api.OK},
		{"a b c", 2, 3, "x", 1, api.OK},
		{"a b c", 2, 3, "b", 3, api.OK},
		{"a b c", 0, 5, "", 0, api.OK},
		{"a b c", 5, 5, " d", 3, api.OK},
		{"a b c", 5, 5, "d", 2, api.OK},
		{"a b c", 0, 0, "  ", 3, api.OK},
		{"a b c", 1, 1, " #", 1, api.OK},
		{"a b c", 3, 5, "", 2, api.OK},
		{"$x{a}", 2, 2, " ", 1, api.OK},
		{"%{a}", 1, 1, " ", 4, api.OK},
		{"1 %{a}", 3, 3, " ", 5, api.OK},
		{"f /2/ 3", 0, 1, "(", 0, api.OK},
		{"f(1) /2/ 3", 3, 4, ",", 3, api.OK},
		{"m/a/g", 4, 5, "i", 0, api.OK},
		{"s/a/b/", 4, 5, "c", 0, api.OK},
		{"", 0, 0, "a", 0, api.OK},
		{"a b c", -1, 0, "", 0, api.ErrArg},
		{"a b c", 2, 1, "", 0, api.ErrArg},
		{"a b c", 0, 6, "", 0, api.ErrArg},
		{"a b c", 6, 6, "", 0, api.ErrArg},
		{"a b c", 2, 1, "~", 0, api.ErrArg},
		{"a ~ c", 2, 1, "", 0, api.ErrSyntax},
		{"a ~ c", 2, 3, "b", 0, api.ErrSyntax},
		{"a b c", 2, 3, "~", 0, api.ErrSyntax},
		{"a b c", 2, 3, strings.Repeat("~", api.MaxSource), 0, api.ErrLarge},
		{"a b c", 2, 3, strings.Repeat(";", api.MaxTokens), 0, api.ErrLarge},
		{"a b c", 2, 3, strings.Repeat(";", api.MaxTokens-2), 1, api.OK},
	}
	for _, c := range cases {
		if n, e := Kept(c.s, c.from, c.to, c.by); n != c.n || e != c.e {
			t.Errorf("Kept of %q, %d, %d, %.10q is %d (%d), not %d (%d)", c.s, c.from, c.to, c.by, n, e, c.n, c.e)
		}
	}
}
