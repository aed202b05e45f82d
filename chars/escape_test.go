package chars

import (
	"slices"
	"strconv"
	"strings"
	"testing"

	"motley/api"
)

// P2.4: what escapes look like.
func TestEscape(t *testing.T) {
	cases := map[string]string{
		"":                 ``,
		"abc ~":            `abc ~`,
		`\`:                `\\`,
		`\\x{41}`:          `\\\\x{41}`,
		"\x00\t\n\x1f\x7f": `\x{0}\x{9}\x{a}\x{1f}\x{7f}`,
		"aé":               `a\x{e9}`,
		"\u0080\uFFFD":     `\x{80}\x{fffd}`,
		"\U00010000":       `\x{10000}`,
		"\U0010FFFF":       `\x{10ffff}`,
		"{}[]()'\"/$@%":    `{}[]()'"/$@%`,
	}
	for s, want := range cases {
		if got, e := Escape(s); got != want || e != api.OK {
			t.Errorf("Escape of %q is %q (%d), not %q", s, got, e, want)
		}
	}
}

// P2.1, P2.4: an Escape has at most MaxText bytes.
func TestEscapeTooLong(t *testing.T) {
	cases := []struct {
		s string
		n int
	}{
		{strings.Repeat(`\`, fitting/2), fitting},
		{strings.Repeat(`\`, fitting/2) + "a", 0},
		{strings.Repeat("a", fitting), fitting},
		{strings.Repeat("a", fitting-1) + `\`, 0},
		{strings.Repeat("a", fitting-6) + "é", fitting},
		{strings.Repeat("a", fitting-5) + "é", 0},
		{strings.Repeat("\x00", fitting), 0},
	}
	for i, c := range cases {
		want := api.OK
		if c.n == 0 {
			want = api.ErrLarge
		}
		if s, e := Escape(c.s); len(s) != c.n || e != want {
			t.Errorf("case %d: Escape has %d bytes (%d)", i, len(s), e)
		}
	}
}

// P2.4: what is read as an escape, in other forms than those that Escape writes, too.
func TestUnescape(t *testing.T) {
	cases := map[string]string{
		``:                     "",
		`abc`:                  "abc",
		`\\`:                   `\`,
		`\\\\`:                 `\\`,
		`\\x{41}`:              `\x{41}`,
		`\x{41}`:               "A",
		`\x{5c}`:               `\`,
		`\x{5c}x{41}`:          `\x{41}`,
		`\x{0}\x{000041}`:      "\x00A",
		`\x{10ffff}\x{10FFfF}`: "\U0010FFFF\U0010FFFF",
		`\x{d7ff}\x{E000}`:     "\uD7FF\uE000",
		`\x{aB}\x{fffd}`:       "\u00AB\uFFFD",
		"é\n\x7f\\x{e9}":       "é\n\x7fé",
		`x{41}{}`:              `x{41}{}`,
		`a\x{20}}`:             `a }`,
	}
	for s, want := range cases {
		if got, e := Unescape(s); got != want || e != api.OK {
			t.Errorf("Unescape of %q is %q (%d), not %q", s, got, e, want)
		}
	}
}

// P2.4: what is no escape.
func TestUnescapeErrors(t *testing.T) {
	wrong := []string{
		`\`, `a\`, `\\\`, `\a`, `\n`, `\ \`, `\é`, `\}`, `\X{41}`, `\x`, `\x41`, `\x{`, `\x{41`, `\x{}`, `\x{ 41}`, `\x{41 }`, `\x{+41}`, `\x{-1}`,
		`\x{g}`, `\x{0x4}`, `\x{4_1}`, `\x{1\x{41}`, `\x{0000041}`, `\x{0000000}`, `\x{d800}`, `\x{DFFF}`, `\x{110000}`, `\x{ffffff}`,
		`\x{1000000}`, `\x{ffffffffffffffffffff}`, `\x {41}`, `\u{41}`, `ok\x{41}\`, `\x{é}`, `\x(41)`,
	}
	for _, s := range wrong {
		if got, e := Unescape(s); got != "" || e != api.ErrSyntax {
			t.Errorf("Unescape of %q is %q (%d)", s, got, e)
		}
	}
}

// P2.4: every character, written with digits of both cases and zeros in front.
func TestUnescapeForms(t *testing.T) {
	for _, c := range all() {
		if c > 0x1200 && c%0x3FF > 0 {
			continue
		}
		digits := strconv.FormatInt(int64(c), 16)
		for len(digits) <= 6 {
			for _, form := range []string{digits, strings.ToUpper(digits)} {
				if s, e := Unescape(`\x{` + form + `}`); s != string(c) || e != api.OK {
					t.Fatalf("Unescape of %s: %q (%d)", form, s, e)
				}
			}
			digits = "0" + digits
		}
	}
}

// P2.4: Unescape of Escape is the text, for all characters.
func TestUnescapeOfEscape(t *testing.T) {
	for l := range slices.Chunk(all(), fitting/10) {
		s, e := Escape(string(l))
		if e != api.OK || strings.ContainsFunc(s, func(c rune) bool { return c < 0x20 || c > 0x7E }) {
			t.Fatalf("Escape of the characters from %x on: %q (%d)", l[0], s, e)
		}
		if got, e := Unescape(s); got != string(l) || e != api.OK {
			t.Fatalf("Unescape of Escape of the characters from %x on: %q (%d)", l[0], got, e)
		}
	}
}
