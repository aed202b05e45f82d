package tree

import (
	"strings"
	"testing"

	"motley/api"
)

// P4.2: the parts of a text with interpolation.
func TestInter(t *testing.T) {
	cases := map[string]string{
		"":                     "(Str ``)",
		"a b":                  "(Str `a b`)",
		`\n\t\"\\\$\@\/`:       "(Str `\n\t\"\\$@/`)",
		`\a\x\q\[\{\ \1`:       "(Str `axq[{ 1`)",
		`a\`:                   "(Str `a\\`)",
		`\\`:                   "(Str `\\`)",
		`\\n`:                  "(Str `\\n`)",
		"\\\n":                 "(Str `\n`)",
		"\\\u00e9":             "(Str `\u00e9`)",
		"\u00e9\x00":           "(Str `\u00e9\x00`)",
		`\x{41}\x{e9}\x{20AC}`: "(Str `A\u00e9\u20ac`)",
		`\x{0}\x{10FFFF}`:      "(Str `\x00\U0010ffff`)",
		`\x{00004a}`:           "(Str `J`)",
		`\x{000004a}`:          "(Str `x{000004a}`)",
		`\x{d7ff}\x{e000}`:     "(Str `\ud7ff\ue000`)",
		`\x{d800}\x{DFFF}`:     "(Str `x{d800}x{DFFF}`)",
		`\x{110000}`:           "(Str `x{110000}`)",
		`\x{}\x{g}\x{4`:        "(Str `x{}x{g}x{4`)",
		`\x{+4}\x{ 4}\x{4_1}`:  "(Str `x{+4}x{ 4}x{4_1}`)",
		`\x{24}x`:              "(Str `$x`)",
		`\x41`:                 "(Str `x41`)",
		"$x":                   "(Join (Scalar `x`))",
		"$if$my":               "(Join (Scalar `if`) (Scalar `my`))",
		"a$x.b":                "(Join (Str `a`) (Scalar `x`) (Str `.b`))",
		"$_$@$&$1$9":           "(Join (Scalar `_`) (Scalar `@`) (Scalar `&`) (Scalar `1`) (Scalar `9`))",
		"$12":                  "(Join (Scalar `1`) (Str `2`))",
		"$0":                   "(Str `$0`)",
		"$@x":                  "(Join (Scalar `@`) (Str `x`))",
		"$_a":                  "(Join (Scalar `_a`))",
		"$a09b":                "(Join (Scalar `a09b`))",
		"$a9::b0.":             "(Join (Scalar `a9::b0`) (Str `.`))",
		"$A::b::c":             "(Join (Scalar `A::b::c`))",
		"$a::":                 "(Join (Scalar `a`) (Str `::`))",
		"$a::1":                "(Join (Scalar `a`) (Str `::1`))",
		"$a:b":                 "(Join (Scalar `a`) (Str `:b`))",
		"$::a":                 "(Str `$::a`)",
		"${x}":                 "(Join (Scalar `x`))",
		"${x}y":                "(Join (Scalar `x`) (Str `y`))",
		"${A::b}":              "(Join (Scalar `A::b`))",
		"${_}":                 "(Join (Scalar `_`))",
		"${1}":                 "(Str `${1}`)",
		"${@}":                 "(Str `${@}`)",
		"${ x}":                "(Str `${ x}`)",
		"${}":                  "(Str `${}`)",
		"${x":                  "(Str `${x`)",
		"$abcdefghijkl":        "(Join (Scalar `abcdefghijkl`))",
		"$abcdefghijklm":       "(Str `$abcdefghijklm`)",
		"${abcdefghijklm}":     "(Str `${abcdefghijklm}`)",
		"@abcdefghijklm":       "(Str `@abcdefghijklm`)",
		"$x[0]":                "(Join (Index (Array `x`) (Num 0)))",
		"${x}[12]":             "(Join (Index (Array `x`) (Num 12)))",
		"$x[999999999999999]":  "(Join (Index (Array `x`) (Num 999999999999999)))",
		"$x[1000000000000000]": "(Join (Scalar `x`) (Str `[1000000000000000]`))",
		"$x[01]":               "(Join (Scalar `x`) (Str `[01]`))",
		"$x[-1]":               "(Join (Scalar `x`) (Str `[-1]`))",
		"$x[]":                 "(Join (Scalar `x`) (Str `[]`))",
		"$x[ 1]":               "(Join (Scalar `x`) (Str `[ 1]`))",
		"$x[1":                 "(Join (Scalar `x`) (Str `[1`))",
		`$x\[1]`:               "(Join (Scalar `x`) (Str `[1]`))",
		"$x[$y]":               "(Join (Index (Array `x`) (Scalar `y`)))",
		"$_[$_]":               "(Join (Index (Array `_`) (Scalar `_`)))",
		"$x[$A::b]":            "(Join (Index (Array `x`) (Scalar `A::b`)))",
		"$x[$1]":               "(Join (Scalar `x`) (Str `[`) (Scalar `1`) (Str `]`))",
		"$x[${y}]":             "(Join (Scalar `x`) (Str `[`) (Scalar `y`) (Str `]`))",
		"$x[$y+1]":             "(Join (Scalar `x`) (Str `[`) (Scalar `y`) (Str `+1]`))",
		"$x[$y[0]]":            "(Join (Scalar `x`) (Str `[`) (Index (Array `y`) (Num 0)) (Str `]`))",
		"$x[$abcdefghijklm]":   "(Join (Scalar `x`) (Str `[$abcdefghijklm]`))",
		"$x{a}":                "(Join (Key (Hash `x`) (Str `a`)))",
		"${x}{if}":             "(Join (Key (Hash `x`) (Str `if`)))",
		"$x{A::b}":             "(Join (Key (Hash `x`) (Str `A::b`)))",
		"$x{1}":                "(Join (Scalar `x`) (Str `{1}`))",
		"$x{$y}":               "(Join (Scalar `x`) (Str `{`) (Scalar `y`) (Str `}`))",
		"$x{a":                 "(Join (Scalar `x`) (Str `{a`))",
		`$x\{a}`:               "(Join (Scalar `x`) (Str `{a}`))",
		"$x[0][1]{a}":          "(Join (Index (Array `x`) (Num 0)) (Str `[1]{a}`))",
		"$x{a}{b}[0]":          "(Join (Key (Hash `x`) (Str `a`)) (Str `{b}[0]`))",
		"$x->[0]":              "(Join (Scalar `x`) (Str `->[0]`))",
		"$1[0]$@{a}":           "(Join (Scalar `1`) (Str `[0]`) (Scalar `@`) (Str `{a}`))",
		"@x":                   "(Join (Array `x`))",
		"@{x}y@_":              "(Join (Array `x`) (Str `y`) (Array `_`))",
		"@x[0]@y{a}":           "(Join (Array `x`) (Str `[0]`) (Array `y`) (Str `{a}`))",
		"a@b::c.d":             "(Join (Str `a`) (Array `b::c`) (Str `.d`))",
		"@1 @@ @ @{} @$x":      "(Join (Str `@1 @@ @ @{} @`) (Scalar `x`))",
		"$$x $":                "(Join (Str `$`) (Scalar `x`) (Str ` $`))",
		"$ x %y &z":            "(Str `$ x %y &z`)",
		`\$x\@y`:               "(Str `$x@y`)",
		`\\$x`:                 "(Join (Str `\\`) (Scalar `x`))",
		"\"'":                  "(Str `\"'`)",
	}
	for raw, want := range cases {
		n, e := Inter(raw)
		if got := form(n); got != want || e != api.OK {
			t.Errorf("Inter of %q is %s (%d), not %s", raw, got, e, want)
		}
		if e := Validate(statement(n)); e != api.OK {
			t.Errorf("Inter of %q is %s, which is not valid (%d)", raw, form(n), e)
		}
	}
}

// P4.2: the longest text, and one that is too long.
func TestInterLarge(t *testing.T) {
	if n, e := Inter(strings.Repeat("a", api.MaxText)); len(n.S) != api.MaxText || e != api.OK {
		t.Errorf("Inter of the longest text has %d bytes (%d)", len(n.S), e)
	}
	if n, e := Inter(strings.Repeat("$a", api.MaxText/2)); len(n.L) != api.MaxText/2 || e != api.OK {
		t.Errorf("Inter of the longest text of variables has %d parts (%d)", len(n.L), e)
	}
	for _, s := range []string{"a", "$a", `\n`} {
		if n, e := Inter(strings.Repeat(s, api.MaxText/len(s)+1)); form(n) != form(api.Node{}) || e != api.ErrLarge {
			t.Errorf("Inter of a text that is too long is %.40s (%d)", form(n), e)
		}
	}
}
