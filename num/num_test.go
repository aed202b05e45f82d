package num

import (
	"regexp"
	"strings"
	"testing"

	"motley/api"
)

func text(s string) api.Scalar { return api.Scalar{Kind: api.Text, S: s} }

func number(n int) api.Scalar { return api.Scalar{Kind: api.Number, N: n} }

// words returns all texts of at most n bytes over an alphabet.
func words(alphabet string, n int) []string {
	all := []string{""}
	last := all
	for range n {
		var longer []string
		for _, s := range last {
			for i := range len(alphabet) {
				longer = append(longer, s+alphabet[i:i+1])
			}
		}
		all = append(all, longer...)
		last = longer
	}
	return all
}

// P1.1: what is a scalar, and which error comes first.
func TestValidate(t *testing.T) {
	long := strings.Repeat("x", api.MaxText+1)
	cases := []struct {
		x    api.Scalar
		want api.Errno
	}{
		{api.Scalar{}, api.OK},
		{api.Scalar{Taint: true}, api.OK},
		{number(0), api.OK},
		{number(api.MaxNum), api.OK},
		{number(-api.MaxNum), api.OK},
		{api.Scalar{Kind: api.Number, N: 5, Taint: true}, api.OK},
		{text(""), api.OK},
		{text(long[1:]), api.OK},
		{text("\xff\x00"), api.OK},
		{api.Scalar{Kind: api.Text, S: "a", Taint: true}, api.OK},
		{text(long), api.ErrLarge},
		{api.Scalar{Kind: api.Text, S: long, N: 1}, api.ErrLarge},
		{api.Scalar{Kind: api.Number, S: long}, api.ErrLarge},
		{api.Scalar{Kind: 3, S: long}, api.ErrLarge},
		{api.Scalar{Kind: 3}, api.ErrArg},
		{api.Scalar{Kind: -1}, api.ErrArg},
		{api.Scalar{N: 1}, api.ErrArg},
		{api.Scalar{S: "a"}, api.ErrArg},
		{number(api.MaxNum + 1), api.ErrArg},
		{number(-api.MaxNum - 1), api.ErrArg},
		{api.Scalar{Kind: api.Number, N: 1, S: "1"}, api.ErrArg},
		{api.Scalar{Kind: api.Text, N: 1, S: "1"}, api.ErrArg},
	}
	for i, c := range cases {
		if got := Validate(c.x); got != c.want {
			t.Errorf("case %d: Validate is %d, not %d", i, got, c.want)
		}
		if c.want == api.OK {
			continue
		}
		if n, e := NumberOf(c.x); n != 0 || e != c.want {
			t.Errorf("case %d: NumberOf is %d, %d", i, n, e)
		}
		if s, e := TextOf(c.x); s != "" || e != c.want {
			t.Errorf("case %d: TextOf is %q, %d", i, s, e)
		}
		if is, e := Truth(c.x); is || e != c.want {
			t.Errorf("case %d: Truth is %v, %d", i, is, e)
		}
	}
}

// P1.1: the number of a text.
func TestNumberOfText(t *testing.T) {
	cases := map[string]int{
		"": 0, "0": 0, "7": 7, "-7": -7, "+7": 7, "007": 7, "-0": 0,
		"  -12abc": -12, "\t\n\r 3": 3, "\v3": 0, "\x003": 0, "a1": 0,
		"- 5": 0, "+-5": 0, "--5": 0, "5-": 5, "1_000": 1, "0x10": 0, "1e3": 1, "3.9": 3, "-3.9": -3,
		"9007199254740991":                          api.MaxNum - 1,
		"9007199254740992":                          api.MaxNum,
		"9007199254740993":                          api.MaxNum,
		"-9007199254740991":                         -api.MaxNum + 1,
		"-9007199254740992":                         -api.MaxNum,
		"-9007199254740993":                         -api.MaxNum,
		"18446744073709551617":                      api.MaxNum,
		strings.Repeat("9", api.MaxText):            api.MaxNum,
		"-" + strings.Repeat("9", api.MaxText-1):    -api.MaxNum,
		strings.Repeat("0", api.MaxText-1) + "5":    5,
		strings.Repeat(" ", api.MaxText-2) + "-5":   -5,
		strings.Repeat("\n", api.MaxText-3) + "8 9": 8,
	}
	for s, want := range cases {
		if n, e := NumberOf(text(s)); n != want || e != api.OK {
			t.Errorf("the number of %.30q is %d (%d), not %d", s, n, e, want)
		}
	}
}

// P1.1: the faces of what is not a text.
func TestFacesOfOthers(t *testing.T) {
	cases := []struct {
		x  api.Scalar
		n  int
		s  string
		is bool
	}{
		{api.Scalar{}, 0, "", false},
		{api.Scalar{Taint: true}, 0, "", false},
		{number(0), 0, "0", false},
		{number(10), 10, "10", true},
		{number(-7), -7, "-7", true},
		{number(api.MaxNum), api.MaxNum, "9007199254740992", true},
		{number(-api.MaxNum), -api.MaxNum, "-9007199254740992", true},
		{api.Scalar{Kind: api.Number, N: 3, Taint: true}, 3, "3", true},
	}
	for _, c := range cases {
		if n, e := NumberOf(c.x); n != c.n || e != api.OK {
			t.Errorf("the number of %v is %d (%d)", c.x, n, e)
		}
		if s, e := TextOf(c.x); s != c.s || e != api.OK {
			t.Errorf("the text of %v is %q (%d)", c.x, s, e)
		}
		if is, e := Truth(c.x); is != c.is || e != api.OK {
			t.Errorf("the truth of %v is %v (%d)", c.x, is, e)
		}
	}
}

// P1.1: the text and the truth of texts.
func TestFacesOfTexts(t *testing.T) {
	for s, want := range map[string]bool{"": false, "0": false, "00": true, "0.0": true, " ": true, "0 ": true, " 0": true, "-0": true, "+0": true, "a": true, "\x00": true} {
		x := api.Scalar{Kind: api.Text, S: s, Taint: want}
		if is, e := Truth(x); is != want || e != api.OK {
			t.Errorf("the truth of %q is %v (%d)", s, is, e)
		}
		if got, e := TextOf(x); got != s || e != api.OK {
			t.Errorf("the text of %q is %q (%d)", s, got, e)
		}
	}
}

// P1.1: which texts look like numbers.
func TestLooks(t *testing.T) {
	cases := map[string]bool{
		"0": true, "-12": true, "+12": true, " 12 ": true, "\t\n\r 12\t\n\r ": true, "007": true,
		strings.Repeat("9", 2*api.MaxText): true,
		"":                                 false, " ": false, "-": false, "+ 1": false, "--1": false, "12a": false, "  -12abc": false, "a12": false,
		"1 2": false, "1.5": false, "1-": false, "\v1": false, "1\f": false, "1\x00": false, "1_0": false, "0x1": false,
	}
	for s, want := range cases {
		if Looks(s) != want {
			t.Errorf("Looks of %.30q is %v", s, !want)
		}
	}
}

// P1.1: numbers and looks of all short texts, against expressions that say the same.
func TestShortTexts(t *testing.T) {
	begin := regexp.MustCompile(`\A[\t\n\r ]*([+-]?)([0-9]*)`)
	whole := regexp.MustCompile(`\A[\t\n\r ]*[+-]?[0-9]+[\t\n\r ]*\z`)
	for _, s := range words("\t\n\r\v +-09a", 4) {
		m := begin.FindStringSubmatch(s)
		want := 0
		for _, c := range m[2] {
			want = want*10 + int(c-'0')
		}
		if m[1] == "-" {
			want = -want
		}
		if n, e := NumberOf(text(s)); n != want || e != api.OK {
			t.Fatalf("the number of %q is %d (%d), not %d", s, n, e, want)
		}
		if Looks(s) != whole.MatchString(s) {
			t.Fatalf("Looks of %q is %v", s, Looks(s))
		}
	}
}

// P1: no function panics or goes on for ever, whatever its arguments.
func TestAllArguments(t *testing.T) {
	ints := []int{-1 << 63, -1<<63 + 1, -api.MaxNum - 1, -api.MaxNum, -2, -1, 0, 1, 2, 3, 8, 10, 16, 4096, api.MaxNum - 1, api.MaxNum, api.MaxNum + 1, 1<<63 - 1}
	texts := []string{"", "0", "-1", "+9007199254740992", "-9007199254740992", "zz", "Zz", "a9", "9", "0x", "0b1", "\xff", "é", strings.Repeat("z", api.MaxText), strings.Repeat("9", api.MaxText+1), strings.Repeat("0", 1<<20)}
	for _, a := range ints {
		for _, s := range texts {
			x := api.Scalar{Kind: a, N: a, S: s}
			Validate(x)
			NumberOf(x)
			TextOf(x)
			Truth(x)
			Repeat(s, a)
		}
		for _, b := range ints {
			Compare(a, b)
			Spell(a, b)
			Round(a, b)
			for _, op := range ints {
				Do(op, a, b)
			}
			for op := api.Add; op <= api.Xor; op++ {
				Do(op, a, b)
			}
		}
	}
	for _, s := range texts {
		Looks(s)
		Next(s)
		Radix(s)
		for _, u := range texts {
			CompareText(s, u)
			Range(s, u)
		}
	}
}
