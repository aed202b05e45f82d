package chars

import (
	"slices"
	"strings"
	"testing"

	"motley/api"
)

const (
	least = -1 << 63
	most  = 1<<63 - 1
)

// texts returns all texts of at most n characters of an alphabet.
func texts(alphabet []string, n int) []string {
	l := []string{""}
	from := 0
	for range n {
		end := len(l)
		for _, s := range l[from:end] {
			for _, c := range alphabet {
				l = append(l, s+c)
			}
		}
		from = end
	}
	return l
}

// P2.3: the number of characters.
func TestWidth(t *testing.T) {
	cases := map[string]int{
		"": 0, "abc": 3, "é\u0660\U00010000": 3, "e\u0301": 2, "\x00\n": 2, "\uFFFD": 1,
		strings.Repeat("\U0010FFFF", fitting/4): fitting / 4, long()[1:]: fitting,
	}
	for s, want := range cases {
		if n, e := Width(s); n != want || e != api.OK {
			t.Errorf("Width of %.10q is %d (%d), not %d", s, n, e, want)
		}
	}
}

// P2.3: parts of texts.
func TestSub(t *testing.T) {
	cases := []struct {
		s       string
		from, n int
		want    string
		e       api.Errno
	}{
		{"abcde", -3, 2, "cd", api.OK},
		{"abcde", 1, -1, "bcd", api.OK},
		{"abcde", 1, 0, "", api.OK},
		{"abcde", 0, 5, "abcde", api.OK},
		{"abcde", 3, 9, "de", api.OK},
		{"abcde", 3, most, "de", api.OK},
		{"abcde", 3, least, "", api.OK},
		{"abcde", 3, -2, "", api.OK},
		{"abcde", 3, -3, "", api.OK},
		{"abcde", -5, -4, "a", api.OK},
		{"abcde", 5, 1, "", api.OK},
		{"abcde", 5, -1, "", api.OK},
		{"abcde", 6, 1, "", api.ErrArg},
		{"abcde", 6, 0, "", api.ErrArg},
		{"abcde", -6, 2, "", api.ErrArg},
		{"abcde", least, most, "", api.ErrArg},
		{"abcde", most, least, "", api.ErrArg},
		{"", 0, 3, "", api.OK},
		{"", -1, 3, "", api.ErrArg},
		{"", 1, 3, "", api.ErrArg},
		{"aé\u2028\U00010000z", 1, 3, "é\u2028\U00010000", api.OK},
		{"aé\u2028\U00010000z", -2, -1, "\U00010000", api.OK},
		{long()[1:], 0, fitting, long()[1:], api.OK},
	}
	for _, c := range cases {
		if s, e := Sub(c.s, c.from, c.n); s != c.want || e != c.e {
			t.Errorf("Sub of %.10q, %d, %d is %.10q (%d)", c.s, c.from, c.n, s, e)
		}
	}
}

// P2.3: all parts of a text, character by character.
func TestSubAll(t *testing.T) {
	l := []string{"a", "é", "\u2028", "\U00010000"}
	for from := -6; from <= 6; from++ {
		for n := -6; n <= 6; n++ {
			place := from
			if from < 0 {
				place = len(l) + from
			}
			want, reason := "", api.ErrArg
			if place >= 0 && place <= len(l) {
				reason = api.OK
				end := place + n
				if n < 0 {
					end = len(l) + n
				}
				for i := place; i < end && i < len(l); i++ {
					want += l[i]
				}
			}
			if s, e := Sub(strings.Join(l, ""), from, n); s != want || e != reason {
				t.Errorf("Sub from %d, %d is %q (%d), not %q (%d)", from, n, s, e, want, reason)
			}
		}
	}
}

// P2.3: where texts stand in others.
func TestIndexCases(t *testing.T) {
	cases := []struct {
		s, t              string
		from, first, last int
	}{
		{"abcabc", "abc", 0, 0, 0},
		{"abcabc", "abc", 1, 3, 0},
		{"abcabc", "abc", 3, 3, 3},
		{"abcabc", "abc", 4, -1, 3},
		{"abcabc", "abc", most, -1, 3},
		{"abcabc", "abc", -1, 0, -1},
		{"abcabc", "abc", least, 0, -1},
		{"abc", "", 2, 2, 2},
		{"abc", "", 3, 3, 3},
		{"abc", "", 4, 3, 3},
		{"abc", "", most, 3, 3},
		{"abc", "", -1, 0, -1},
		{"abc", "", least, 0, -1},
		{"", "", 0, 0, 0},
		{"", "", 5, 0, 0},
		{"", "", -5, 0, -1},
		{"", "a", 0, -1, -1},
		{"ab", "abc", 0, -1, -1},
		{"éaéa", "a", 0, 1, -1},
		{"éaéa", "a", 2, 3, 1},
		{"é\u2028\U00010000é", "é", 1, 3, 0},
		{"ééé", "éé", 1, 1, 1},
		{"aaaa", "aa", 3, -1, 2},
		{long()[1:], "x", fitting - 1, fitting - 1, fitting - 1},
		{long()[1:], long()[1:], 0, 0, 0},
	}
	for _, c := range cases {
		if n, e := Index(c.s, c.t, c.from); n != c.first || e != api.OK {
			t.Errorf("Index of %.10q, %.10q, %d is %d (%d), not %d", c.s, c.t, c.from, n, e, c.first)
		}
		if n, e := Last(c.s, c.t, c.from); n != c.last || e != api.OK {
			t.Errorf("Last of %.10q, %.10q, %d is %d (%d), not %d", c.s, c.t, c.from, n, e, c.last)
		}
	}
}

// P2.3: Index and Last of short texts, by looking at all places.
func TestIndexAll(t *testing.T) {
	alphabet := []string{"a", "é"}
	for _, s := range texts(alphabet, 5) {
		l := []rune(s)
		for _, part := range texts(alphabet, 3) {
			for from := -2; from <= 7; from++ {
				first, last := -1, -1
				for place := range len(l) + 1 {
					if !strings.HasPrefix(string(l[place:]), part) {
						continue
					}
					if first < 0 && place >= min(from, len(l)) {
						first = place
					}
					if place <= from {
						last = place
					}
				}
				if n, e := Index(s, part, from); n != first || e != api.OK {
					t.Fatalf("Index of %q, %q, %d is %d (%d), not %d", s, part, from, n, e, first)
				}
				if n, e := Last(s, part, from); n != last || e != api.OK {
					t.Fatalf("Last of %q, %q, %d is %d (%d), not %d", s, part, from, n, e, last)
				}
			}
		}
	}
}

// P2.3: the opposite order, by characters and not by bytes.
func TestReverse(t *testing.T) {
	cases := map[string]string{
		"": "", "a": "a", "abc": "cba", "aé\u2028\U00010000": "\U00010000\u2028éa", "e\u0301": "\u0301e", "\x00\uFFFD": "\uFFFD\x00",
	}
	for s, want := range cases {
		if got, e := Reverse(s); got != want || e != api.OK {
			t.Errorf("Reverse of %q is %q (%d)", s, got, e)
		}
	}
	for l := range slices.Chunk(all(), fitting/4) {
		got, e := Reverse(string(l))
		if back, e2 := Reverse(got); back != string(l) || e != api.OK || e2 != api.OK {
			t.Fatalf("Reverse of Reverse of the characters from %x on", l[0])
		}
		slices.Reverse(l)
		if got != string(l) {
			t.Fatalf("Reverse of the characters up to %x", l[0])
		}
	}
}
