package num

import (
	"strconv"
	"strings"

	"motley/api"
)

// Radix returns the number that a whole text writes in base 16, 2, 8 or 10, as its begin says.
func Radix(s string) (int, bool) {
	base, digits := splitBase(s)
	n, behindDigit := 0, false
	for _, c := range []byte(digits) {
		if c == '_' && behindDigit {
			behindDigit = false
			continue
		}
		d := digitOf(c)
		if d >= base {
			return 0, false
		}
		n, behindDigit = n*base+d, true
		if n > api.MaxNum {
			return 0, false
		}
	}
	if !behindDigit {
		return 0, false
	}
	return n, true
}

// Spell returns the text of a number in base 2, 8, 10 or 16.
func Spell(n, base int) (string, api.Errno) {
	prefix, ok := prefixOf(base)
	if !ok || !isNumber(n) {
		return "", api.ErrArg
	}
	digits := strconv.FormatInt(int64(size(n)), base)
	if digits == "0" && base == 8 {
		// The prefix of octal numbers is the number 0 already.
		return "0", api.OK
	}
	if n < 0 {
		prefix = "-" + prefix
	}
	return prefix + digits, api.OK
}

// Round returns the multiple that is nearest to n, of two the one farther from 0.
func Round(n, to int) (int, api.Errno) {
	if !isNumber(n) || to < 1 || to > api.MaxNum {
		return 0, api.ErrArg
	}
	over := size(n) % to
	r := size(n) - over
	if over >= to-over {
		r += to
	}
	if r > api.MaxNum {
		return 0, api.ErrLarge
	}
	if n < 0 {
		return -r, api.OK
	}
	return r, api.OK
}

// splitBase returns the base of a text of digits and the digits; the 0 in front of octal ones is one of them.
func splitBase(s string) (int, string) {
	if digits, ok := strings.CutPrefix(s, "0x"); ok {
		return 16, digits
	}
	if digits, ok := strings.CutPrefix(s, "0b"); ok {
		return 2, digits
	}
	if strings.HasPrefix(s, "0") {
		return 8, s
	}
	return 10, s
}

// digitOf returns the value of a digit of any base, and one above all bases for other bytes.
func digitOf(c byte) int {
	switch {
	case isDigit(c):
		return int(c - '0')
	case 'a' <= c && c <= 'f':
		return int(c-'a') + 10
	case 'A' <= c && c <= 'F':
		return int(c-'A') + 10
	}
	return 99
}

// prefixOf returns what stands in front of numbers in a base, and whether it is one that Spell takes.
func prefixOf(base int) (string, bool) {
	switch base {
	case 2:
		return "0b", true
	case 8:
		return "0", true
	case 10:
		return "", true
	case 16:
		return "0x", true
	}
	return "", false
}
