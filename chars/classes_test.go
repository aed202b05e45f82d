package chars

import (
	"slices"
	"testing"

	"motley/api"
)

// within reports whether c is from one of the first to one of the last characters of pairs.
func within(c int, pairs ...int) bool {
	for i := 0; i < len(pairs); i += 2 {
		if pairs[i] <= c && c <= pairs[i+1] {
			return true
		}
	}
	return false
}

// belongs says what the chapter says of classes.
func belongs(c int, class string) bool {
	switch class {
	case "upper":
		return within(c, 0x41, 0x5A) || within(c, 0xC0, 0xDE) && c != 0xD7 || within(c, 0x391, 0x3A9) && c != 0x3A2 ||
			within(c, 0x410, 0x42F) || c == 0x1E9E || c == 0x212A || c == 0x212B
	case "lower":
		return within(c, 0x61, 0x7A) || c == 0xB5 || within(c, 0xDF, 0xFF) && c != 0xF7 || c == 0x149 || c == 0x17F ||
			within(c, 0x3B1, 0x3C9, 0x430, 0x44F, 0xFB00, 0xFB06)
	case "letter":
		return belongs(c, "upper") || belongs(c, "lower") || c == 0xAA || c == 0xBA || c == 0x2BC
	case "digit":
		return within(c, 0x30, 0x39, 0x660, 0x669)
	case "mark":
		return within(c, 0x300, 0x36F)
	case "blank":
		return within(c, 9, 0xD) || c == 0x20 || c == 0x85 || c == 0xA0 || c == 0x2028 || c == 0x2029
	case "word":
		return belongs(c, "letter") || belongs(c, "digit") || belongs(c, "mark") || c == 0x5F
	}
	return true
}

func names() []string {
	return []string{"upper", "lower", "letter", "digit", "mark", "blank", "word", "any"}
}

// P2.2: the spans of each class are exactly its characters, as few as can be, and memory of their own.
func TestSpans(t *testing.T) {
	for _, class := range names() {
		var want []api.Span
		for c := range 0x110001 {
			if !isNumberOfCharacter(c) || !belongs(c, class) {
				continue
			}
			if n := len(want); n > 0 && want[n-1].Hi == c-1 {
				want[n-1].Hi = c
			} else {
				want = append(want, api.Span{Lo: c, Hi: c})
			}
		}
		for range 2 {
			l, e := Spans(class)
			if !slices.Equal(l, want) || e != api.OK {
				t.Errorf("Spans of %s: %x (%d), not %x", class, l, e, want)
			}
			clear(l)
		}
	}
}

// P2.2: which characters are of a class.
func TestIs(t *testing.T) {
	for _, class := range names() {
		for _, c := range all() {
			// Behind the plane of the languages there is nothing but `any`; some of the rest is enough.
			if c > 0x2200 && !within(int(c), 0xD700, 0xE100, 0xFA00, 0xFC00) && c%0x3FF > 0 {
				continue
			}
			if is, e := Is(int(c), class); is != belongs(int(c), class) || e != api.OK {
				t.Fatalf("Is of %x and %s: %v (%d)", c, class, is, e)
			}
		}
	}
}

// P2.2: classes that there are not come before characters that are none.
func TestClassErrors(t *testing.T) {
	for _, class := range []string{"", "Upper", "upper ", "letters", "\xff", long()} {
		if is, e := Is(0x41, class); is || e != api.ErrNone {
			t.Errorf("Is of A and %.10q: %v, %d", class, is, e)
		}
		if is, e := Is(-1, class); is || e != api.ErrNone {
			t.Errorf("Is of -1 and %.10q: %v, %d", class, is, e)
		}
		if l, e := Spans(class); len(l) > 0 || e != api.ErrNone {
			t.Errorf("Spans of %.10q: %x, %d", class, l, e)
		}
	}
	for _, class := range names() {
		for _, c := range []int{-1, 0xD800, 0xDFFF, 0x110000, 1<<32 + 0x41, 1<<63 - 1, -1 << 63} {
			if is, e := Is(c, class); is || e != api.ErrArg {
				t.Errorf("Is of %x and %s: %v, %d", c, class, is, e)
			}
		}
	}
}
