package chars

import (
	"strings"

	"motley/api"
)

// Lower replaces each character by its small form.
func Lower(s string) (string, api.Errno) {
	return changed(s, small)
}

// Upper replaces each character by its capital form.
func Upper(s string) (string, api.Errno) {
	return changed(s, capital)
}

// Title makes the first character a capital, and all others small.
func Title(s string) (string, api.Errno) {
	if e := check(s); e != api.OK {
		return "", e
	}
	first, rest := cutFirst(s)
	// A capital form may have several characters, of which the first one alone stays a capital.
	first, more := cutFirst(replaced(first, capital))
	return limited(first + replaced(more+rest, small))
}

// Fold replaces each character by its fold.
func Fold(s string) (string, api.Errno) {
	return changed(s, fold)
}

// SameFold reports whether the folds of two texts are equal, however long they are.
func SameFold(s, t string) (bool, api.Errno) {
	if e := check(s, t); e != api.OK {
		return false, e
	}
	return replaced(s, fold) == replaced(t, fold), api.OK
}

// changed returns a text with a form of each of its characters, if it is a text and the result is not too long.
func changed(s string, form func(c rune) string) (string, api.Errno) {
	if e := check(s); e != api.OK {
		return "", e
	}
	return limited(replaced(s, form))
}

// replaced returns a text with a form of each of its characters.
func replaced(s string, form func(c rune) string) string {
	var b strings.Builder
	for _, c := range s {
		b.WriteString(form(c))
	}
	return b.String()
}

// cutFirst returns the first character of a text and what is behind it.
func cutFirst(s string) (string, string) {
	for i := range s {
		if i > 0 {
			return s[:i], s[i:]
		}
	}
	return s, ""
}

// small returns the small form of a character.
func small(c rune) string {
	switch c {
	case 0x1E9E:
		return "\u00DF"
	case 0x212A:
		return "k"
	case 0x212B:
		return "\u00E5"
	}
	if isPlainCapital(c) {
		return string(c + 0x20)
	}
	return string(c)
}

// capital returns the capital form of a character.
func capital(c rune) string {
	if letters := plainLetters(c); letters != "" {
		return replaced(letters, capital)
	}
	if isPlainCapital(c-0x20) && c != 0x3C2 {
		return string(c - 0x20)
	}
	return string(c)
}

// fold returns the fold of a character.
func fold(c rune) string {
	switch c {
	case 0xB5:
		return "\u03BC"
	case 0x1E9E:
		return "ss"
	}
	if letters := plainLetters(c); letters != "" {
		return letters
	}
	return small(c)
}

// isPlainCapital reports whether the small form of a character is the one 20 (hexadecimal) further.
func isPlainCapital(c rune) bool {
	switch {
	case 0x41 <= c && c <= 0x5A, 0x410 <= c && c <= 0x42F:
		return true
	case 0xC0 <= c && c <= 0xDE:
		return c != 0xD7
	case 0x391 <= c && c <= 0x3A9:
		return c != 0x3A2
	}
	return false
}

// plainLetters returns the letters that a special small character stands for, empty for all other characters: they are its fold, and their capitals are its capital form.
func plainLetters(c rune) string {
	switch c {
	case 0xDF:
		return "ss"
	case 0x149:
		return "\u02BCn"
	case 0x17F:
		return "s"
	case 0x3C2:
		return "\u03C3"
	case 0xFB00:
		return "ff"
	case 0xFB01:
		return "fi"
	case 0xFB02:
		return "fl"
	case 0xFB03:
		return "ffi"
	case 0xFB04:
		return "ffl"
	case 0xFB05, 0xFB06:
		return "st"
	}
	return ""
}
