package num

import (
	"strconv"
	"strings"

	"motley/api"
)

// Next returns a text one further: of letters and digits by its bytes, else by its number.
func Next(s string) (string, api.Errno) {
	if len(s) > api.MaxText {
		return "", api.ErrLarge
	}
	next := nextNumber
	if isSerial(s) {
		next = nextSerial
	}
	t := next(s)
	if len(t) > api.MaxText {
		return "", api.ErrLarge
	}
	return t, api.OK
}

// Range returns the texts from one to another, each the Next of the one before.
func Range(from, to string) ([]string, api.Errno) {
	if len(from) > api.MaxText || len(to) > api.MaxText {
		return nil, api.ErrLarge
	}
	var l []string
	for s := from; len(s) <= len(to); {
		if len(l) == api.MaxItems {
			return nil, api.ErrLarge
		}
		l = append(l, s)
		if s == to {
			break
		}
		t, e := Next(s)
		if e != api.OK {
			// A text that is too long for Next is longer than `to`, which ends the range.
			break
		}
		s = t
	}
	return l, api.OK
}

// Repeat returns a text n times, one after the other.
func Repeat(s string, n int) (string, api.Errno) {
	if len(s) > api.MaxText {
		return "", api.ErrLarge
	}
	if s == "" || n < 1 {
		return "", api.OK
	}
	if n > api.MaxText/len(s) {
		return "", api.ErrLarge
	}
	return strings.Repeat(s, n), api.OK
}

// isSerial reports whether a text is not empty and consists of letters and then digits.
func isSerial(s string) bool {
	letters := 0
	for letters < len(s) && isLetter(s[letters]) {
		letters++
	}
	return s != "" && letters+leadingDigits(s[letters:]) == len(s)
}

func isLetter(c byte) bool {
	return 'a' <= c && c <= 'z' || 'A' <= c && c <= 'Z'
}

// nextNumber returns the text of the number behind that of s; behind MaxNum there is none.
func nextNumber(s string) string {
	return strconv.Itoa(min(numberOf(s)+1, api.MaxNum))
}

// nextSerial returns the text behind one of letters and digits, with a carry from its end on.
func nextSerial(s string) string {
	l := []byte(s)
	for i := len(l) - 1; i >= 0; i-- {
		switch l[i] {
		case 'z':
			l[i] = 'a'
		case 'Z':
			l[i] = 'A'
		case '9':
			l[i] = '0'
		default:
			l[i]++
			return string(l)
		}
	}
	return carried(l[0]) + string(l)
}

// carried returns what stands in front of a text all of whose bytes were carried over; first is its first byte now.
func carried(first byte) string {
	if first == '0' {
		return "1"
	}
	return string(first)
}
