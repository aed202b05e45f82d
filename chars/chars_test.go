package chars

import (
	"slices"
	"strings"
	"testing"
	"unicode/utf8"

	"motley/api"
)

const (
	fitting = api.MaxText
	broken  = "a\xffb"
)

func long() string { return strings.Repeat("x", api.MaxText+1) }

// isNumberOfCharacter says what the chapter says of characters.
func isNumberOfCharacter(c int) bool {
	return c >= 0 && c <= 0x10FFFF && (c < 0xD800 || c > 0xDFFF)
}

// all returns all characters, in order.
func all() []rune {
	var l []rune
	for c := range 0x110000 {
		if isNumberOfCharacter(c) {
			l = append(l, rune(c))
		}
	}
	return l
}

// P2.1: texts that are valid, and where others stop being so.
func TestValid(t *testing.T) {
	cases := []struct {
		s    string
		n    int
		want bool
	}{
		{"", 0, true},
		{"abc", 3, true},
		{"\x00\x7f", 2, true},
		{"é\u0660\U00010000", 8, true},
		{"\uFFFD", 3, true},
		{"a\uFFFDb", 5, true},
		{"a\uFFFD\xff", 4, false},
		{"\xff", 0, false},
		{"ab\x80", 2, false},
		{"a\xc3", 1, false},
		{"a\xc3a", 1, false},
		{"é\xe2\x82", 2, false},
		{"\xe2\x82\xacx\xf0\x9f\x98", 4, false},
		{"\xc0\x80", 0, false},
		{"\xc1\xbf", 0, false},
		{"\xe0\x80\x80", 0, false},
		{"\xe0\x9f\xbf", 0, false},
		{"\xe0\xa0\x80", 3, true},
		{"\xf0\x80\x80\x80", 0, false},
		{"\xf0\x8f\xbf\xbf", 0, false},
		{"\xed\x9f\xbf", 3, true},
		{"x\xed\xa0\x80", 1, false},
		{"x\xed\xbf\xbf", 1, false},
		{"\xee\x80\x80", 3, true},
		{"\xf4\x8f\xbf\xbf", 4, true},
		{"\xf4\x90\x80\x80", 0, false},
		{"\xf5\x80\x80\x80", 0, false},
		{"\xf8\x88\x80\x80\x80", 0, false},
		{strings.Repeat("é", api.MaxText), 2 * api.MaxText, true},
		{strings.Repeat("é", api.MaxText) + "\xa9", 2 * api.MaxText, false},
	}
	for _, c := range cases {
		if n, is := Valid(c.s); n != c.n || is != c.want {
			t.Errorf("Valid of %.30q is %d, %v, not %d, %v", c.s, n, is, c.n, c.want)
		}
	}
}

// P2.1: Valid of all texts of up to four bytes that stand at borders of UTF-8.
func TestValidShort(t *testing.T) {
	bytes := "\x00A\x7f\x80\x8f\x90\x9f\xa0\xbd\xbf\xc0\xc1\xc2\xdf\xe0\xed\xef\xf0\xf4\xf5\xff"
	texts := []string{""}
	for from := 0; len(texts[from]) < 4; from++ {
		for i := range len(bytes) {
			texts = append(texts, texts[from]+bytes[i:i+1])
		}
	}
	for _, s := range texts {
		want := len(s)
		for !utf8.ValidString(s[:want]) {
			want--
		}
		if n, is := Valid(s); n != want || is != (want == len(s)) {
			t.Fatalf("Valid of %q is %d, %v, not %d", s, n, is, want)
		}
	}
}

// P2.1: the errors of texts, with zero values, in all functions that take one.
func TestTextErrors(t *testing.T) {
	type result struct {
		name  string
		other bool
		e     api.Errno
	}
	calls := func(s string) []result {
		points, e1 := Points(s)
		lower, e2 := Lower(s)
		upper, e3 := Upper(s)
		title, e4 := Title(s)
		folded, e5 := Fold(s)
		width, e6 := Width(s)
		sub, e7 := Sub(s, 1<<40, 1)
		reverse, e8 := Reverse(s)
		escaped, e9 := Escape(s)
		unescaped, e10 := Unescape(s)
		same1, e11 := SameFold(s, s)
		same2, e12 := SameFold("", s)
		index1, e13 := Index(s, "x", 0)
		index2, e14 := Index("x", s, 0)
		last1, e15 := Last(s, "x", 0)
		last2, e16 := Last("x", s, 0)
		return []result{
			{"Points", len(points) > 0, e1}, {"Lower", lower != "", e2}, {"Upper", upper != "", e3}, {"Title", title != "", e4},
			{"Fold", folded != "", e5}, {"Width", width != 0, e6}, {"Sub", sub != "", e7}, {"Reverse", reverse != "", e8},
			{"Escape", escaped != "", e9}, {"Unescape", unescaped != "", e10},
			{"SameFold", same1, e11}, {"SameFold, the second", same2, e12}, {"Index", index1 != 0, e13}, {"Index, the second", index2 != 0, e14},
			{"Last", last1 != 0, e15}, {"Last, the second", last2 != 0, e16},
		}
	}
	cases := []struct {
		s    string
		want api.Errno
	}{
		{long(), api.ErrLarge}, {long() + "\xff", api.ErrLarge}, {"\xff" + long(), api.ErrLarge}, {strings.Repeat("é", fitting/2) + "x", api.ErrLarge},
		{broken, api.ErrSyntax}, {"\xed\xa0\x80", api.ErrSyntax}, {"\xc0\xaf", api.ErrSyntax}, {"\xff\\", api.ErrSyntax}, {long()[2:] + "\xff", api.ErrSyntax},
	}
	for _, c := range cases {
		for _, r := range calls(c.s) {
			if r.other || r.e != c.want {
				t.Errorf("%s of %.10q is %v, %d, not %d", r.name, c.s, r.other, r.e, c.want)
			}
		}
	}
}

// P2.1: all errors of the first text come before those of the second one.
func TestTextErrorsInOrder(t *testing.T) {
	for _, c := range []struct {
		s, t string
		want api.Errno
	}{{broken, long(), api.ErrSyntax}, {long(), broken, api.ErrLarge}} {
		if is, e := SameFold(c.s, c.t); is || e != c.want {
			t.Errorf("SameFold of %.10q, %.10q: %v, %d", c.s, c.t, is, e)
		}
		if n, e := Index(c.s, c.t, 0); n != 0 || e != c.want {
			t.Errorf("Index of %.10q, %.10q: %d, %d", c.s, c.t, n, e)
		}
		if n, e := Last(c.s, c.t, -1); n != 0 || e != c.want {
			t.Errorf("Last of %.10q, %.10q: %d, %d", c.s, c.t, n, e)
		}
	}
}

// P2.1: the characters of texts, and texts of as many bytes as there may be.
func TestPoints(t *testing.T) {
	cases := []struct {
		s    string
		want []int
	}{
		{"", nil},
		{"a", []int{0x61}},
		{"\x00é\u2028\U0010FFFF", []int{0, 0xE9, 0x2028, 0x10FFFF}},
		{"\uFFFD\uD7FF\uE000", []int{0xFFFD, 0xD7FF, 0xE000}},
	}
	for _, c := range cases {
		if l, e := Points(c.s); !slices.Equal(l, c.want) || e != api.OK {
			t.Errorf("Points of %q: %x (%d)", c.s, l, e)
		}
	}
	if l, e := Points(long()[1:]); len(l) != api.MaxText || e != api.OK {
		t.Errorf("Points of a text of MaxText bytes: %d characters (%d)", len(l), e)
	}
}

// P2.1: the text of a list, and lists that have none.
func TestText(t *testing.T) {
	cases := []struct {
		l    []int
		want string
		e    api.Errno
	}{
		{nil, "", api.OK},
		{[]int{}, "", api.OK},
		{[]int{0x61, 0}, "a\x00", api.OK},
		{[]int{0xE9, 0x2028, 0x10FFFF}, "é\u2028\U0010FFFF", api.OK},
		{[]int{0xD7FF, 0xE000, 0xFFFD}, "\uD7FF\uE000\uFFFD", api.OK},
		{[]int{0x61, -1}, "", api.ErrArg},
		{[]int{0xD800}, "", api.ErrArg},
		{[]int{0xDFFF, 0x61}, "", api.ErrArg},
		{[]int{0x110000}, "", api.ErrArg},
		{[]int{1<<32 + 0x61}, "", api.ErrArg},
		{[]int{-1 << 63}, "", api.ErrArg},
		{slices.Repeat([]int{0x61}, fitting), strings.Repeat("a", fitting), api.OK},
		{slices.Repeat([]int{0x61}, fitting+1), "", api.ErrLarge},
		{slices.Repeat([]int{0x10000}, fitting/4), strings.Repeat("\U00010000", fitting/4), api.OK},
		{slices.Repeat([]int{0x10000}, fitting/4+1), "", api.ErrLarge},
		{append(slices.Repeat([]int{0x61}, fitting+1), 0xD800), "", api.ErrArg},
	}
	for i, c := range cases {
		before := slices.Clone(c.l)
		if s, e := Text(c.l); s != c.want || e != c.e {
			t.Errorf("case %d: Text is %.20q (%d)", i, s, e)
		}
		if !slices.Equal(c.l, before) {
			t.Errorf("case %d: Text has changed the list", i)
		}
	}
}

// P2.1: Text of Points is the text, for all characters.
func TestTextOfPoints(t *testing.T) {
	for l := range slices.Chunk(all(), fitting/4) {
		s := string(l)
		points, e := Points(s)
		if e != api.OK || len(points) != len(l) {
			t.Fatalf("Points: %d (%d)", len(points), e)
		}
		for i, c := range l {
			if points[i] != int(c) {
				t.Fatalf("the character %x is %x", c, points[i])
			}
		}
		if got, e := Text(points); got != s || e != api.OK {
			t.Fatalf("Text of Points of the characters from %x on: %d", l[0], e)
		}
	}
}
