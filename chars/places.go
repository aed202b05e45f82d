package chars

import (
	"slices"
	"strings"
	"unicode/utf8"

	"motley/api"
)

// Width returns the number of characters of a text.
func Width(s string) (int, api.Errno) {
	if e := check(s); e != api.OK {
		return 0, e
	}
	return utf8.RuneCountInString(s), api.OK
}

// Sub returns n characters of a text from a place on, or all from there on but -n at the end.
func Sub(s string, from, n int) (string, api.Errno) {
	if e := check(s); e != api.OK {
		return "", e
	}
	l := []rune(s)
	if from < 0 {
		from += len(l)
	}
	if from < 0 || from > len(l) {
		return "", api.ErrArg
	}
	rest := l[from:]
	if n < 0 {
		n = max(len(rest)+n, 0)
	}
	return string(rest[:min(n, len(rest))]), api.OK
}

// Index returns the first place from one on at which t stands in s, -1 for none.
func Index(s, t string, from int) (int, api.Errno) {
	if e := check(s, t); e != api.OK {
		return 0, e
	}
	from = min(from, utf8.RuneCountInString(s))
	for _, place := range places(s, t) {
		if place >= from {
			return place, api.OK
		}
	}
	return -1, api.OK
}

// Last returns the last place up to one at which t stands in s, -1 for none.
func Last(s, t string, from int) (int, api.Errno) {
	if e := check(s, t); e != api.OK {
		return 0, e
	}
	last := -1
	for _, place := range places(s, t) {
		if place <= from {
			last = place
		}
	}
	return last, api.OK
}

// Reverse returns the characters of a text in the opposite order.
func Reverse(s string) (string, api.Errno) {
	if e := check(s); e != api.OK {
		return "", e
	}
	l := []rune(s)
	slices.Reverse(l)
	return string(l), api.OK
}

// places returns all places at which t stands in s, in ascending order.
func places(s, t string) []int {
	var l []int
	place := 0
	for i := range s {
		if strings.HasPrefix(s[i:], t) {
			l = append(l, place)
		}
		place++
	}
	if t == "" {
		// The end is a place, too, at which only the empty text stands.
		l = append(l, place)
	}
	return l
}
