package chars

import (
	"slices"
	"strings"
	"testing"

	"motley/api"
)

// specialCapitals and specialFolds are the forms of single characters, as the chapter lists them.
var (
	specialCapitals = map[int][]int{
		0x3C2: {0x3A3}, 0x17F: {0x53}, 0xDF: {0x53, 0x53}, 0x149: {0x2BC, 0x4E},
		0xFB00: {0x46, 0x46}, 0xFB01: {0x46, 0x49}, 0xFB02: {0x46, 0x4C}, 0xFB03: {0x46, 0x46, 0x49}, 0xFB04: {0x46, 0x46, 0x4C},
		0xFB05: {0x53, 0x54}, 0xFB06: {0x53, 0x54},
	}
	specialFolds = map[int][]int{
		0xB5: {0x3BC}, 0xDF: {0x73, 0x73}, 0x1E9E: {0x73, 0x73}, 0x149: {0x2BC, 0x6E}, 0x17F: {0x73}, 0x3C2: {0x3C3},
		0xFB00: {0x66, 0x66}, 0xFB01: {0x66, 0x69}, 0xFB02: {0x66, 0x6C}, 0xFB03: {0x66, 0x66, 0x69}, 0xFB04: {0x66, 0x66, 0x6C},
		0xFB05: {0x73, 0x74}, 0xFB06: {0x73, 0x74},
	}
)

// smallForm says what the chapter says of small forms.
func smallForm(c int) []int {
	switch {
	case within(c, 0x41, 0x5A, 0x410, 0x42F), within(c, 0xC0, 0xDE) && c != 0xD7, within(c, 0x391, 0x3A9) && c != 0x3A2:
		return []int{c + 0x20}
	case c == 0x1E9E:
		return []int{0xDF}
	case c == 0x212A:
		return []int{0x6B}
	case c == 0x212B:
		return []int{0xE5}
	}
	return []int{c}
}

// capitalForm says what the chapter says of capital forms.
func capitalForm(c int) []int {
	if l, ok := specialCapitals[c]; ok {
		return l
	}
	if within(c, 0x61, 0x7A, 0x3B1, 0x3C9, 0x430, 0x44F) || within(c, 0xE0, 0xFE) && c != 0xF7 {
		return []int{c - 0x20}
	}
	return []int{c}
}

// foldForm says what the chapter says of folds.
func foldForm(c int) []int {
	if l, ok := specialFolds[c]; ok {
		return l
	}
	return smallForm(c)
}

// spelt returns the text of the forms of characters.
func spelt(l []rune, form func(c int) []int) string {
	var b strings.Builder
	for _, c := range l {
		for _, d := range form(int(c)) {
			b.WriteRune(rune(d))
		}
	}
	return b.String()
}

// P2.2: the forms of all characters, and that doing it again changes nothing.
func TestForms(t *testing.T) {
	cases := []struct {
		name  string
		f     func(s string) (string, api.Errno)
		form  func(c int) []int
		again bool
	}{{"Lower", Lower, smallForm, true}, {"Upper", Upper, capitalForm, false}, {"Fold", Fold, foldForm, true}}
	for l := range slices.Chunk(all(), fitting/8) {
		for _, c := range cases {
			got, e := c.f(string(l))
			if got != spelt(l, c.form) || e != api.OK {
				t.Errorf("%s of the characters from %x on: %q (%d)", c.name, l[0], got, e)
			}
			if same, e := c.f(got); c.again && (same != got || e != api.OK) {
				t.Errorf("%s of %s of the characters from %x on: %q (%d)", c.name, c.name, l[0], same, e)
			}
		}
	}
}

// P2.2: the first character is a capital, of which all but the first character are small; the rest is small.
func TestTitle(t *testing.T) {
	for _, c := range all() {
		if c > 0x2200 && !within(int(c), 0xFA00, 0xFC00) && c%0x3FF > 0 {
			continue
		}
		capitals := []rune(spelt([]rune{c}, capitalForm))
		first, more := string(capitals[:1]), spelt(capitals[1:], smallForm)
		if s, e := Title(string(c)); s != first+more || e != api.OK {
			t.Fatalf("Title of %x: %q (%d)", c, s, e)
		}
		rest := []rune{'X', c, 0xDF, 0x1E9E, 0x149, 'y'}
		if s, e := Title(string(c) + string(rest)); s != first+more+spelt(rest, smallForm) || e != api.OK {
			t.Fatalf("Title of %x and more: %q (%d)", c, s, e)
		}
	}
}

// P2.2: what the chapter gives as examples, and words.
func TestFormCases(t *testing.T) {
	cases := []struct{ s, lower, upper, title, fold string }{
		{"", "", "", "", ""},
		{"Straße", "straße", "STRASSE", "Straße", "strasse"},
		{"\uFB01X", "\uFB01x", "FIX", "Fix", "fix"},
		{"\uFB03N", "\uFB03n", "FFIN", "Ffin", "ffin"},
		{"ßA", "ßa", "SSA", "Ssa", "ssa"},
		{"\u0149Og", "\u0149og", "\u02BCNOG", "\u02BCnog", "\u02BCnog"},
		{"hELLO wORLD", "hello world", "HELLO WORLD", "Hello world", "hello world"},
		{" aB", " ab", " AB", " ab", " ab"},
		{"ΣΑΣ\u03C2", "σασ\u03C2", "ΣΑΣΣ", "Σασ\u03C2", "σασσ"},
		{"×÷ÿµ", "×÷ÿµ", "×÷ÿµ", "×÷ÿµ", "×÷ÿ\u03BC"},
		{"\u1E9E\u212A\u212B", "ßkå", "\u1E9E\u212A\u212B", "\u1E9Ekå", "sskå"},
		{"ЖЯжя", "жяжя", "ЖЯЖЯ", "Жяжя", "жяжя"},
		{"\u017F1_\x00", "\u017F1_\x00", "S1_\x00", "S1_\x00", "s1_\x00"},
		{"\U0001F600Ā", "\U0001F600Ā", "\U0001F600Ā", "\U0001F600Ā", "\U0001F600Ā"},
	}
	for _, c := range cases {
		lower, e1 := Lower(c.s)
		upper, e2 := Upper(c.s)
		title, e3 := Title(c.s)
		folded, e4 := Fold(c.s)
		if lower != c.lower || upper != c.upper || title != c.title || folded != c.fold || e1+e2+e3+e4 != api.OK {
			t.Errorf("%q: %q, %q, %q, %q (%d, %d, %d, %d)", c.s, lower, upper, title, folded, e1, e2, e3, e4)
		}
	}
}

// P2.1, P2.2: forms may be longer than the text; the limit is that of texts.
func TestFormsTooLong(t *testing.T) {
	cases := []struct {
		name string
		f    func(s string) (string, api.Errno)
		s    string
		n    int
	}{
		{"Lower", Lower, strings.Repeat("\u0149", fitting/2), fitting},
		{"Upper", Upper, strings.Repeat("\u0149", fitting/2), 0},
		{"Fold", Fold, strings.Repeat("\u0149", fitting/2), 0},
		{"Title", Title, strings.Repeat("\u0149", fitting/2), 0},
		{"Upper", Upper, "\u0149" + strings.Repeat("a", fitting-3), fitting},
		{"Upper", Upper, "\u0149" + strings.Repeat("a", fitting-2), 0},
		{"Fold", Fold, strings.Repeat("a", fitting-3) + "\u0149", fitting},
		{"Fold", Fold, strings.Repeat("a", fitting-2) + "\u0149", 0},
		{"Title", Title, "\u0149" + strings.Repeat("A", fitting-3), fitting},
		{"Title", Title, "\u0149" + strings.Repeat("A", fitting-2), 0},
		{"Title", Title, strings.Repeat("A", fitting-2) + "\u0149", fitting},
	}
	for i, c := range cases {
		want := api.OK
		if c.n == 0 {
			want = api.ErrLarge
		}
		if s, e := c.f(c.s); len(s) != c.n || e != want {
			t.Errorf("case %d: %s has %d bytes (%d)", i, c.name, len(s), e)
		}
	}
}

// P2.2: texts that are the same but for their forms, and texts that are not.
func TestSameFold(t *testing.T) {
	long := strings.Repeat("\u0149", fitting/2)
	cases := []struct {
		s, t string
		want bool
	}{
		{"", "", true},
		{"", "a", false},
		{"a", "", false},
		{"Straße", "STRASSE", true},
		{"\u1E9E", "ß", true},
		{"\uFB05", "\uFB06", true},
		{"\uFB03", "fFi", true},
		{"\u212A\u212B", "Kå", true},
		{"\u03C2", "Σ", true},
		{"µ", "μ", true},
		{"Μ", "µ", true},
		{"\u0149", "\u02BCN", true},
		{"ss", "s", false},
		{"ab", "ba", false},
		{"ÿ", "Ÿ", false},
		{"é", "e\u0301", false},
		{long, long, true},
		{long, long[2:], false},
	}
	for _, c := range cases {
		if is, e := SameFold(c.s, c.t); is != c.want || e != api.OK {
			t.Errorf("SameFold of %.20q and %.20q: %v (%d)", c.s, c.t, is, e)
		}
	}
}
