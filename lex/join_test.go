package lex

import (
	"math/rand"
	"slices"
	"strings"
	"testing"

	"motley/api"
)

// P3.2: the source that Join makes of the tokens of a source.
func TestJoin(t *testing.T) {
	cases := map[string]string{
		"":                              "",
		"$x=1+f(2);":                    "$x = 1 + f ( 2 ) ;",
		"a::b # c\n 1":                  "a::b 1",
		"$x {a}":                        "$x { a }",
		"$x{a}{'b'}[ 0 ]{c}":            "$x{ a }{ 'b' } [ 0 ]{ c }",
		"$x [0] {a}":                    "$x [ 0 ] { a }",
		"$x-> {a}":                      "$x ->{ a }",
		"f({a=>1})":                     "f ( { a => 1 } )",
		"$$x,@$x,%$x,&$x":               "$$x , @$x , %$x , &$x",
		"%  $x":                         "%$x",
		"% @x":                          "% @x",
		"% {}":                          "%{ }",
		"1 + & #c\n {}":                 "1 + &{ }",
		"1%$x,1&$x":                     "1 % $x , 1 & $x",
		"${x},@{x},%{x},&{x},%${x}":     "${ x } , @{ x } , %{ x } , &{ x } , %${ x }",
		"1 &{}":                         "1 & { }",
		"'a\\'b\\\\\\n'":                `'a\'b\\\\n'`,
		"q(a'(b)\\))":                   `'a\'(b))'`,
		`"a\"$x"`:                       `"a\"$x"`,
		`qq(a"b\))`:                     `"a\"b)"`,
		"qw[ (  a) \\\\ ]":              `qw(\( a\) \\)`,
		"/a.b/":                         "m/a.b/",
		`m!a/b\/c\!!xg`:                 `m/a\/b\/c\!/xg`,
		`s{a/}{"b/$x"\}}i`:              `s/a\//\"b\/$x\"}/i`,
		`tr(a/\\)(b\)\/)cd`:             `tr/a\/\\/b)\\\//cd`,
		"<<E . <<'F'\na\"\nE\n'\\\nF\n": "\"a\\\"\n\" . '\\'\\\\\n'",
		"m/a/gi":                        "m/a/g i",
		"$1 2.3 . 4":                    "$1 2 . 3 . 4",
		"L:{}":                          "L : { }",
		"<<=":                           "< <=",
	}
	for s, want := range cases {
		l, _, e := Lex(s)
		got, e2 := Join(l)
		if got != want || e != api.OK || e2 != api.OK {
			t.Errorf("Join of Lex of %q is %q (%d, %d), not %q", s, got, e, e2, want)
		}
		if k, _, _ := Lex(got); !Same(k, l) {
			t.Errorf("Join of Lex of %q has other tokens", s)
		}
	}
}

// P3.2: tokens that no source has.
func TestJoinErrors(t *testing.T) {
	cases := []struct {
		l    []api.Token
		want api.Errno
	}{
		{[]api.Token{str(strings.Repeat("a", api.MaxSource-1))}, api.ErrLarge},
		{[]api.Token{str(strings.Repeat("a", api.MaxSource-2))}, api.OK},
		{slices.Repeat([]api.Token{sign(";")}, api.MaxTokens+1), api.ErrLarge},
		{slices.Repeat([]api.Token{sign(";")}, api.MaxTokens), api.OK},
		{[]api.Token{sign("~")}, api.ErrSyntax},
		{[]api.Token{word("abcdefghijklm")}, api.ErrSyntax},
		{[]api.Token{str("\x00")}, api.ErrSyntax},
		{[]api.Token{raw(`a\`)}, api.ErrSyntax},
		{[]api.Token{number("1"), variable("$x")}, api.ErrSyntax},
		{[]api.Token{number("1"), str("a")}, api.ErrSyntax},
		{[]api.Token{word("a b")}, api.ErrArg},
		{[]api.Token{word("")}, api.ErrArg},
		{[]api.Token{word("1")}, api.ErrArg},
		{[]api.Token{number("a")}, api.ErrArg},
		{[]api.Token{sign("a")}, api.ErrArg},
		{[]api.Token{sign("'a'")}, api.ErrArg},
		{[]api.Token{sign("#")}, api.ErrArg},
		{[]api.Token{sign("{")}, api.ErrArg},
		{[]api.Token{sign("}")}, api.ErrArg},
		{[]api.Token{brace("{", 2)}, api.ErrArg},
		{[]api.Token{brace("{", 3)}, api.ErrArg},
		{[]api.Token{brace("{", 1), brace("}", 2)}, api.ErrArg},
		{[]api.Token{brace(";", 1)}, api.ErrArg},
		{[]api.Token{variable("$x"), brace("{", 1)}, api.ErrArg},
		{[]api.Token{sign("%"), brace("{", 3)}, api.ErrArg},
		{[]api.Token{sign("&"), brace("{", 1)}, api.ErrArg},
		{[]api.Token{sign("%"), brace("{", 2)}, api.OK},
		{[]api.Token{number("1"), sign("%"), brace("{", 2)}, api.ErrArg},
		{[]api.Token{number("1"), sign("%"), brace("{", 3)}, api.OK},
		{[]api.Token{{Kind: -1, Text: "a"}}, api.ErrArg},
		{[]api.Token{{Kind: 10, Text: "a"}}, api.ErrArg},
		{[]api.Token{{Kind: api.KWord, Text: "a", More: "g"}}, api.ErrArg},
		{[]api.Token{{Kind: api.KStr, Text: "a", Repl: "b"}}, api.ErrArg},
		{[]api.Token{raw(`a"`), sign(".")}, api.ErrSyntax},
		{[]api.Token{words("a  b")}, api.ErrArg},
		{[]api.Token{words(" a")}, api.ErrArg},
		{[]api.Token{pattern("a", "gi")}, api.ErrArg},
		{[]api.Token{pattern("a", "e")}, api.ErrArg},
		{[]api.Token{pattern(`a\/b/`, "")}, api.ErrArg},
		{[]api.Token{subst("a", `b"`, "")}, api.ErrArg},
		{[]api.Token{trans("a", "b", "g")}, api.ErrArg},
	}
	for i, c := range cases {
		s, e := Join(c.l)
		if e != c.want || (s == "") == (e == api.OK) {
			t.Errorf("case %d: Join of %.60v is %.20q (%d), not %d", i, c.l, s, e, c.want)
		}
	}
}

// filler returns a text with interpolation that has n bytes with its quotes.
func filler(n int) api.Token {
	return raw(strings.Repeat("a", n-len(`""`)))
}

// P3.2: where no blank stands, and that what is expected at a token is known from the tokens before it, whatever these are.
func TestJoinBlanks(t *testing.T) {
	cases := []struct {
		l    []api.Token
		want string
	}{
		// A sign `$` or `@` of a term, and one where an operator is expected.
		{[]api.Token{sign("$"), variable("$x")}, "$$x"},
		{[]api.Token{sign("@"), number("1")}, "@1"},
		{[]api.Token{word("return"), sign("@"), variable("$x")}, "return @$x"},
		{[]api.Token{brace("}", 2), sign("$"), variable("$x")}, "} $ $x"},
		{[]api.Token{brace("}", 3), sign("@"), variable("$x")}, "} @ $x"},
		{[]api.Token{brace("}", 1), sign("@"), variable("$x")}, "} @$x"},
		{[]api.Token{word("1 +"), sign("$"), variable("$x")}, "1 + $ $x"},
		{[]api.Token{number("1"), sign("@"), variable("$x")}, "1 @ $x"},
		{[]api.Token{number("1"), sign("++"), sign("$"), variable("$x")}, "1 ++ $ $x"},
		{[]api.Token{sign("++"), sign("$"), variable("$x")}, "++ $$x"},
		{[]api.Token{sign(")"), sign("$"), sign("$"), variable("$x")}, ") $ $$x"},
		{[]api.Token{number("1"), sign("@"), brace("{", 2)}, "1 @{"},
		{[]api.Token{word("$"), variable("$x")}, "$ $x"},
		// What is expected behind a `}` of any Open, and behind a token of any kind.
		{[]api.Token{brace("}", 0), sign("%"), variable("$x")}, "} %$x"},
		{[]api.Token{brace("}", 1), sign("%"), variable("$x")}, "} %$x"},
		{[]api.Token{brace("}", 2), sign("%"), variable("$x")}, "} % $x"},
		{[]api.Token{brace("}", 3), sign("&"), variable("$x")}, "} & $x"},
		{[]api.Token{brace("}", 4), sign("&"), variable("$x")}, "} &$x"},
		{[]api.Token{brace("}", -1), sign("&"), variable("$x")}, "} &$x"},
		{[]api.Token{brace("}", -1), sign("++"), sign("@"), variable("$x")}, "} ++ @$x"},
		{[]api.Token{brace("]", 7), sign("&"), variable("$x")}, "] & $x"},
		{[]api.Token{brace(")", 1), sign("&"), variable("$x")}, ") & $x"},
		{[]api.Token{{Kind: api.KNum, Text: "+"}, sign("%"), variable("$x")}, "+ % $x"},
		{[]api.Token{{Kind: api.KVar, Text: "+"}, sign("%"), variable("$x")}, "+ % $x"},
		{[]api.Token{word("+"), sign("%"), variable("$x")}, "+ % $x"},
		{[]api.Token{word("not"), sign("%"), variable("$x")}, "not %$x"},
		{[]api.Token{sign("not"), sign("%"), variable("$x")}, "not %$x"},
		{[]api.Token{sign("1"), sign("%"), variable("$x")}, "1 %$x"},
		{[]api.Token{str(""), sign("%"), variable("$x")}, "'' % $x"},
		{[]api.Token{raw(""), sign("%"), variable("$x")}, `"" % $x`},
		{[]api.Token{words(""), sign("%"), variable("$x")}, "qw() % $x"},
		{[]api.Token{pattern("", ""), sign("%"), variable("$x")}, "m// % $x"},
		{[]api.Token{subst("", "", ""), sign("%"), variable("$x")}, "s/// % $x"},
		{[]api.Token{trans("", "", ""), sign("%"), variable("$x")}, "tr/// % $x"},
		{[]api.Token{{Kind: -1, Text: ")"}, sign("%"), variable("$x")}, ") %$x"},
		{[]api.Token{{Kind: 10, Text: "+"}, sign("$"), variable("$x")}, "+ $$x"},
		// A `$` that follows, whatever the kind of its token.
		{[]api.Token{sign("%"), word("$x")}, "%$x"},
		{[]api.Token{sign("&"), number("$x")}, "&$x"},
		{[]api.Token{sign("&"), sign("$x")}, "&$x"},
		{[]api.Token{sign("%"), {Kind: 10, Text: "$x"}}, "%$x"},
		{[]api.Token{sign("%"), {Kind: -1, Text: "$"}}, "%$"},
		{[]api.Token{number("1"), sign("%"), word("$x")}, "1 % $x"},
		{[]api.Token{sign("%"), word("x$")}, "% x$"},
		{[]api.Token{sign("%"), variable("@x")}, "% @x"},
		{[]api.Token{sign("%"), word("")}, "% "},
		{[]api.Token{sign("%"), str("$x")}, "% '$x'"},
		{[]api.Token{sign("&"), raw("$x")}, `& "$x"`},
		{[]api.Token{sign("%"), words("$x")}, "% qw($x)"},
		{[]api.Token{sign("%"), pattern("$x", "")}, "% m/$x/"},
		{[]api.Token{sign("%"), subst("$x", "", "")}, "% s/$x//"},
		{[]api.Token{sign("%"), trans("$x", "", "")}, "% tr/$x//"},
	}
	for _, c := range cases {
		if got := joined(c.l); got != c.want {
			t.Errorf("%+v are joined to %q, not %q", c.l, got, c.want)
		}
		s, e := Join(c.l)
		k, _, e2 := Lex(c.want)
		if e2 == api.OK && !Same(k, c.l) {
			e2 = api.ErrArg
		}
		if e != e2 || e == api.OK && s != c.want {
			t.Errorf("Join of %+v is %q (%d), not %q (%d)", c.l, s, e, c.want, e2)
		}
		// The longest source, and one byte more.
		rest := api.MaxSource - len(c.want) - 1
		if _, e := Join(append(c.l, filler(rest))); e == api.ErrLarge {
			t.Errorf("%+v are joined to more than %q", c.l, c.want)
		}
		if _, e := Join(append(c.l, filler(rest+1))); e != api.ErrLarge {
			t.Errorf("%+v are joined to less than %q", c.l, c.want)
		}
	}
}

// P3.1, P3.2: what the longest sources are refused for. Behind a variable an operator is expected, so that no quote begins there.
func TestJoinLongest(t *testing.T) {
	for _, open := range []int{0, 1, 4, -1} {
		for _, x := range []string{"%", "&"} {
			want := api.ErrArg
			if open == block {
				want = api.OK
			}
			begin := []api.Token{brace("}", open), sign(x), variable("$x")}
			size := len("} %$x ")
			checkJoin(t, append(slices.Clone(begin), sign("."), filler(api.MaxSource-size-2)), want)
			checkJoin(t, append(slices.Clone(begin), sign("."), filler(api.MaxSource-size-1)), api.ErrLarge)
			checkJoin(t, append(slices.Clone(begin), filler(api.MaxSource-size)), api.ErrSyntax)
			checkJoin(t, append(slices.Clone(begin), filler(api.MaxSource-size+1)), api.ErrLarge)
		}
	}
}

// P3.1, P3.2: likewise with a `$x` that is no variable.
func TestJoinLongestDollar(t *testing.T) {
	for _, kind := range []int{api.KWord, api.KNum, api.KSign, -1, 10} {
		for _, x := range []string{"%", "&"} {
			begin := []api.Token{sign(x), {Kind: kind, Text: "$x"}}
			size := len("%$x ")
			checkJoin(t, append(slices.Clone(begin), sign("."), filler(api.MaxSource-size-2)), api.ErrArg)
			checkJoin(t, append(slices.Clone(begin), sign("."), filler(api.MaxSource-size-1)), api.ErrLarge)
			checkJoin(t, append(slices.Clone(begin), filler(api.MaxSource-size)), api.ErrSyntax)
			checkJoin(t, append(slices.Clone(begin), filler(api.MaxSource-size+1)), api.ErrLarge)
		}
	}
}

func checkJoin(t *testing.T, l []api.Token, want api.Errno) {
	t.Helper()
	if s, e := Join(l); e != want || (s == "") == (e == api.OK) {
		t.Errorf("Join of %.60v is %.20q (%d), not %d", l, s, e, want)
	}
}

// P3.2: Join does not look at places.
func TestJoinPlaces(t *testing.T) {
	l := []api.Token{{Kind: api.KWord, Text: "a", At: -7}, {Kind: api.KNum, Text: "1", At: 99}}
	if s, e := Join(l); s != "a 1" || e != api.OK {
		t.Errorf("Join is %q (%d)", s, e)
	}
}

// P3.2: what Same compares.
func TestSame(t *testing.T) {
	x := api.Token{Kind: api.KSubst, At: 1, Text: "a", Repl: "b", More: "g", Open: 1}
	others := []api.Token{x, x, x, x, x}
	others[0].Kind = api.KTrans
	others[1].Text = "c"
	others[2].Repl = ""
	others[3].More = "i"
	others[4].Open = 0
	for _, y := range others {
		if Same([]api.Token{x}, []api.Token{y}) || Same([]api.Token{word("a"), x}, []api.Token{word("a"), y}) {
			t.Errorf("%+v and %+v are the same", x, y)
		}
	}
	y := x
	y.At = 2
	if !Same([]api.Token{x, y}, []api.Token{y, x}) || !Same(nil, []api.Token{}) {
		t.Error("places are compared, or nil and empty")
	}
	if Same([]api.Token{x}, nil) || Same(nil, []api.Token{x}) || Same([]api.Token{x}, []api.Token{x, x}) {
		t.Error("lists of other lengths are the same")
	}
}

// P3.2: texts as quotes.
func TestQuote(t *testing.T) {
	for s, want := range map[string]string{"": "''", "a b": "'a b'", `a'b\c"`: `'a\'b\\c"'`, "\t\n ~": "'\t\n ~'", `\`: `'\\'`} {
		got, e := Quote(s)
		if got != want || e != api.OK {
			t.Errorf("Quote of %q is %q (%d)", s, got, e)
		}
		if l, _, e := Lex(got); e != api.OK || !Same(l, []api.Token{str(s)}) {
			t.Errorf("Quote of %q is read as %+v (%d)", s, l, e)
		}
	}
	long := strings.Repeat("'", api.MaxText)
	if s, e := Quote(long); len(s) != 2*api.MaxText+2 || e != api.OK {
		t.Errorf("Quote of the longest text has %d bytes (%d)", len(s), e)
	}
	for s, want := range map[string]api.Errno{long + "a": api.ErrLarge, long + "\x00": api.ErrLarge, "a\x00": api.ErrArg, "\r": api.ErrArg, "\x7f": api.ErrArg, "\u00e9": api.ErrArg, "\x1f": api.ErrArg} {
		if q, e := Quote(s); q != "" || e != want {
			t.Errorf("Quote of %.10q is %.10q (%d)", s, q, e)
		}
	}
}

// randomSource returns pieces of sources in any order.
func randomSource(r *rand.Rand) string {
	pieces := []string{
		" ", " ", "\n", "\t", "#c", "a", "b1", "x", "_", "::", "return ", "print", "sub ", "L:", "12", "0", "$", "@", "%", "&", "$x", "@y", "%h", "&f", "$_", "$1", "$@", "$&",
		"{", "}", "{", "}", "(", ")", "[", "]", "->", "++", "--", "/", "//", "<", "<<", "<<E", "<<'E'", "<<\"E\"", "\nE\n", "E", "'", "\"", "\\", "\\\\", "\\/", "\\'", "\\\"",
		"q", "qq", "qw", "m", "s", "tr", "q(", "qq{", "qw[", "m/", "s/", "s{", "tr|", "!", "|", "~", "=~", "=", "=>", "<=>", "..", ".", ",", ";", "?", ":", "-", "g", "i", "cd", "r",
		"'a'", "\"b\"", "m/a/", "s/a/b/", "qw(a b)", "\x00", "\u00e9",
	}
	var b strings.Builder
	for range r.Intn(24) {
		b.WriteString(pieces[r.Intn(len(pieces))])
	}
	return b.String()
}

// P3.1, P3.2, P3.3, P1: of any source, Join has the same tokens; the functions agree with each other.
func TestRandomSources(t *testing.T) {
	r := rand.New(rand.NewSource(3))
	good := 0
	for range 300000 {
		s := randomSource(r)
		l, n, e := Lex(s)
		terms, e2 := Terms(s)
		if e != e2 {
			t.Fatalf("Lex and Terms of %q: %d, %d", s, e, e2)
		}
		if e == api.ErrSyntax && (n < 0 || n >= len(s) || l != nil) || e != api.ErrSyntax && e != api.OK {
			t.Fatalf("Lex of %q: %d (%d)", s, n, e)
		}
		if e != api.OK {
			continue
		}
		good++
		if n != len(l) || len(terms) != n {
			t.Fatalf("Lex of %q: %d, %d, %d", s, n, len(l), len(terms))
		}
		joined, e := Join(l)
		k, _, e2 := Lex(joined)
		if e != api.OK || e2 != api.OK || !Same(k, l) {
			t.Fatalf("Join of Lex of %q is %q (%d, %d)", s, joined, e, e2)
		}
		if again, _ := Join(k); again != joined {
			t.Fatalf("Join of Lex of Join of Lex of %q is %q, not %q", s, again, joined)
		}
		if n, e := Kept(s, 0, len(s), joined); n != len(l) || e != api.OK {
			t.Fatalf("Kept of %q: %d (%d)", s, n, e)
		}
		checkPlaces(t, s, l)
	}
	if good < 10000 {
		t.Errorf("only %d sources without an error", good)
	}
}

// checkPlaces checks that tokens ascend, and stand where they say.
func checkPlaces(t *testing.T, s string, l []api.Token) {
	t.Helper()
	end := 0
	for _, x := range l {
		if x.At < end {
			t.Fatalf("%q: %+v begins before %d", s, x, end)
		}
		end = x.At + 1
		if x.Kind <= api.KSign {
			if !strings.HasPrefix(s[x.At:], x.Text) {
				t.Fatalf("%q: %+v is not at its place", s, x)
			}
			end = x.At + len(x.Text)
		}
	}
}

// P1: texts of any bytes, and all short sources of some bytes.
func TestAnyBytes(t *testing.T) {
	r := rand.New(rand.NewSource(4))
	for range 20000 {
		b := make([]byte, r.Intn(40))
		for i := range b {
			b[i] = byte(r.Intn(256))
			if r.Intn(4) > 0 {
				b[i] = byte(32 + r.Intn(96))
			}
		}
		s := string(b)
		_, n, e := Lex(s)
		if e == api.ErrSyntax && (n < 0 || n >= len(s)) {
			t.Fatalf("Lex of %q: %d", s, n)
		}
		Kept(s, 0, len(s)/2, s)
		Join([]api.Token{{Kind: r.Intn(12) - 1, Text: s, Repl: s, More: s, Open: r.Intn(5) - 1}, {Kind: r.Intn(12) - 1, Text: s}})
		Quote(s)
		IsWord(s)
	}
}
