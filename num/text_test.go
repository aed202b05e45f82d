package num

import (
	"regexp"
	"slices"
	"strconv"
	"strings"
	"testing"

	"motley/api"
)

// P1.3: Next of texts of both kinds.
func TestNext(t *testing.T) {
	cases := map[string]string{
		"az": "ba", "Zz9": "AAa0", "a": "b", "z": "aa", "Z": "AA", "zZ": "aaA", "9": "10", "099": "100", "zz99": "aaa00", "zy": "zz",
		"a9": "b0", "Az": "Ba", "aZ": "bA", "zZ9": "aaA0", "08": "09", "Zz": "AAa", "y9": "z0",
		"9007199254740992": "9007199254740993", "99999999999999999999": "100000000000000000000",
		"": "1", "a-b": "1", "-1": "0", "-5": "-4", " 7": "8", "+9": "10", "1a": "2", "9z": "10", "a1b": "1", "3.5": "4", "é": "1", "z ": "1", "9 ": "10", "_": "1",
		"+9007199254740991": "9007199254740992", "+9007199254740992": "9007199254740992", " 99999999999999999999": "9007199254740992",
		"-9007199254740992": "-9007199254740991", "-99999999999999999999": "-9007199254740991",
	}
	for s, want := range cases {
		if got, e := Next(s); got != want || e != api.OK {
			t.Errorf("Next of %q is %q (%d), not %q", s, got, e, want)
		}
	}
}

// P1.3: Next of all short texts, its last byte at a time.
func TestNextShort(t *testing.T) {
	serial := regexp.MustCompile(`\A[a-zA-Z]*[0-9]*\z`)
	for _, s := range words("aymzAYZ0189-", 3) {
		want := strconv.Itoa(numberOf(s) + 1)
		if s != "" && serial.MatchString(s) {
			want = slowNext(s, s[0])
		}
		if got, e := Next(s); got != want || e != api.OK {
			t.Fatalf("Next of %q is %q (%d), not %q", s, got, e, want)
		}
	}
}

// slowNext is Next of letters and digits; first is the first byte of the whole text.
func slowNext(s string, first byte) string {
	order := map[string]string{"z": "a", "Z": "A", "9": "0"}
	if s == "" {
		if '0' <= first && first <= '9' {
			return "1"
		}
		if 'a' <= first {
			return "a"
		}
		return "A"
	}
	front, last := s[:len(s)-1], s[len(s)-1:]
	if begin, ok := order[last]; ok {
		return slowNext(front, first) + begin
	}
	return front + string(last[0]+1)
}

// P1.3: what is too long for Next.
func TestNextLarge(t *testing.T) {
	z := strings.Repeat("z", api.MaxText)
	if s, e := Next(z[1:]); s != "a"+strings.Repeat("a", api.MaxText-1) || e != api.OK {
		t.Errorf("Next of the longest text that grows: %d bytes (%d)", len(s), e)
	}
	if s, e := Next("y" + z[1:]); s != "z"+strings.Repeat("a", api.MaxText-1) || e != api.OK {
		t.Errorf("Next of the longest text that does not grow: %d bytes (%d)", len(s), e)
	}
	for _, s := range []string{z, strings.Repeat("9", api.MaxText), z + "a", strings.Repeat(" ", api.MaxText+1)} {
		if got, e := Next(s); got != "" || e != api.ErrLarge {
			t.Errorf("Next of %d bytes: %d bytes (%d)", len(s), len(got), e)
		}
	}
}

// P1.3: ranges of texts.
func TestRange(t *testing.T) {
	cases := []struct{ from, to, want string }{
		{"x", "ab", "x,y,z,aa,ab"},
		{"a", "a", "a"},
		{"08", "11", "08,09,10,11"},
		{"a8", "b1", "a8,a9,b0,b1"},
		{"-2", "-1", "-2,-1"},
		{"-2", "01", "-2,-1,0,1,2,3,4,5,6,7,8,9," + strings.Join(counted(10, 99), ",")},
		{"7", "3", "7,8,9"},
		{"x", "b", "x,y,z"},
		{"w", "-", "w,x,y,z"},
		{"a-b", "-", ""},
		{"ab", "c", ""},
		{"-2", "2", ""},
		{"a", "", ""},
		{"", "3", ",1,2,3"},
	}
	for _, c := range cases {
		l, e := Range(c.from, c.to)
		if strings.Join(l, ",") != c.want || (len(l) == 0) != (c.want == "") || e != api.OK {
			t.Errorf("Range of %q and %q: %q (%d)", c.from, c.to, l, e)
		}
	}
	if l, e := Range("", ""); !slices.Equal(l, []string{""}) || e != api.OK {
		t.Errorf("Range of two empty texts: %q (%d)", l, e)
	}
}

// counted returns the texts of the numbers from one to another.
func counted(from, to int) []string {
	var l []string
	for n := from; n <= to; n++ {
		l = append(l, strconv.Itoa(n))
	}
	return l
}

// P1.3: how many texts a range may have, and how long they may be.
func TestRangeLarge(t *testing.T) {
	if l, e := Range("001", "200"); len(l) != api.MaxItems || l[199] != "200" || e != api.OK {
		t.Errorf("a range of MaxItems: %d (%d)", len(l), e)
	}
	if l, e := Range("000", "200"); l != nil || e != api.ErrLarge {
		t.Errorf("a range of one more: %d (%d)", len(l), e)
	}
	if l, e := Range("800", "1"); l != nil || e != api.OK {
		t.Errorf("a range whose begin is longer: %q (%d)", l, e)
	}
	if l, e := Range("800", "_-_"); len(l) != api.MaxItems || l[199] != "999" || e != api.OK {
		t.Errorf("a range of MaxItems before one that is longer: %d (%d)", len(l), e)
	}
	if l, e := Range("a-b", "_-_"); l != nil || e != api.ErrLarge {
		t.Errorf("a range that begins anew at 1: %d (%d)", len(l), e)
	}
	if l, e := Range("799", "_-_"); l != nil || e != api.ErrLarge {
		t.Errorf("a range of one more before one that is longer: %d (%d)", len(l), e)
	}
	z := strings.Repeat("z", api.MaxText)
	if l, e := Range(z[1:]+"y", "-"+z[1:]); !slices.Equal(l, []string{z[1:] + "y", z}) || e != api.OK {
		t.Errorf("a range up to the longest text: %d (%d)", len(l), e)
	}
	for _, c := range [][2]string{{z + "z", "a"}, {"a", z + "z"}, {z, z + "z"}, {z + "z", z + "z"}} {
		if l, e := Range(c[0], c[1]); l != nil || e != api.ErrLarge {
			t.Errorf("a range of %d and %d bytes: %d (%d)", len(c[0]), len(c[1]), len(l), e)
		}
	}
}

// P1.4: repeated texts.
func TestRepeat(t *testing.T) {
	cases := []struct {
		s    string
		n    int
		want string
	}{
		{"ab", 3, "ababab"}, {"ab", 1, "ab"}, {"ab", 0, ""}, {"ab", -1, ""}, {"ab", -1 << 63, ""},
		{"", 5, ""}, {"", 1<<63 - 1, ""}, {strings.Repeat("x", api.MaxText), 0, ""},
		{"x", api.MaxText, strings.Repeat("x", api.MaxText)},
		{strings.Repeat("x", api.MaxText), 1, strings.Repeat("x", api.MaxText)},
		{"abc", api.MaxText / 3, strings.Repeat("abc", api.MaxText/3)},
	}
	for _, c := range cases {
		if got, e := Repeat(c.s, c.n); got != c.want || e != api.OK {
			t.Errorf("Repeat of %.10q and %d: %d bytes (%d)", c.s, c.n, len(got), e)
		}
	}
	long := strings.Repeat("x", api.MaxText+1)
	for _, c := range []struct {
		s string
		n int
	}{{long, 1}, {long, 0}, {long, -1}, {"x", api.MaxText + 1}, {"abc", api.MaxText/3 + 1}, {"ab", 1 << 62}, {"ab", 1<<63 - 1}, {long[1:], 2}} {
		if got, e := Repeat(c.s, c.n); got != "" || e != api.ErrLarge {
			t.Errorf("Repeat of %d bytes and %d: %d bytes (%d)", len(c.s), c.n, len(got), e)
		}
	}
}
