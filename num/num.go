// Package num is layer 1: a scalar's two faces.
package num

import (
	"cmp"
	"strconv"
	"strings"

	"motley/api"
)

// Validate reports what is wrong with a scalar; a text that is too long counts first, whatever the kind.
func Validate(x api.Scalar) api.Errno {
	if len(x.S) > api.MaxText {
		return api.ErrLarge
	}
	switch x.Kind {
	case api.Undef:
		if x.N == 0 && x.S == "" {
			return api.OK
		}
	case api.Number:
		if isNumber(x.N) && x.S == "" {
			return api.OK
		}
	case api.Text:
		if x.N == 0 {
			return api.OK
		}
	}
	return api.ErrArg
}

// NumberOf returns the number of a scalar.
func NumberOf(x api.Scalar) (int, api.Errno) {
	if e := Validate(x); e != api.OK {
		return 0, e
	}
	if x.Kind == api.Text {
		return numberOf(x.S), api.OK
	}
	return x.N, api.OK
}

// TextOf returns the text of a scalar.
func TextOf(x api.Scalar) (string, api.Errno) {
	if e := Validate(x); e != api.OK {
		return "", e
	}
	if x.Kind == api.Number {
		return strconv.Itoa(x.N), api.OK
	}
	return x.S, api.OK
}

// Truth reports whether a scalar is true.
func Truth(x api.Scalar) (bool, api.Errno) {
	s, e := TextOf(x)
	if e != api.OK {
		return false, e
	}
	return s != "" && s != "0", api.OK
}

// Looks reports whether a text is a whole decimal number, perhaps with blanks around it.
func Looks(s string) bool {
	_, rest := cutSign(skipBlanks(s))
	digits := leadingDigits(rest)
	return digits > 0 && skipBlanks(rest[digits:]) == ""
}

// Compare returns -1, 0 or 1, as a is less than b, equal to it or greater.
func Compare(a, b int) int {
	return cmp.Compare(a, b)
}

// CompareText returns -1, 0 or 1, as s comes before t, is equal to it or comes behind it, by their bytes.
func CompareText(s, t string) int {
	return strings.Compare(s, t)
}

// isNumber reports whether n is in the range of numbers.
func isNumber(n int) bool {
	return -api.MaxNum <= n && n <= api.MaxNum
}

// size returns the absolute value of a number; numbers are so small that there always is one.
func size(n int) int {
	return max(n, -n)
}

// numberOf returns the number of a text of any length.
func numberOf(s string) int {
	minus, rest := cutSign(skipBlanks(s))
	n := 0
	for i := range leadingDigits(rest) {
		// Staying at MaxNum keeps the sum small however many digits follow.
		n = min(n*10+int(rest[i]-'0'), api.MaxNum)
	}
	if minus {
		return -n
	}
	return n
}

// skipBlanks returns a text without the blank bytes at its begin.
func skipBlanks(s string) string {
	return strings.TrimLeft(s, "\t\n\r ")
}

// cutSign returns whether a text begins with a minus, and what is behind its sign if it has one.
func cutSign(s string) (bool, string) {
	if s != "" && (s[0] == '+' || s[0] == '-') {
		return s[0] == '-', s[1:]
	}
	return false, s
}

// leadingDigits returns how many decimal digits a text begins with.
func leadingDigits(s string) int {
	n := 0
	for n < len(s) && isDigit(s[n]) {
		n++
	}
	return n
}

func isDigit(c byte) bool {
	return '0' <= c && c <= '9'
}
