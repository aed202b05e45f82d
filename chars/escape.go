package chars

import (
	"strconv"
	"strings"

	"motley/api"
)

// maxHex is how many hexadecimal digits the number of an escape has at most.
const maxHex = 6

// Escape returns a text of printable bytes that Unescape reads back.
func Escape(s string) (string, api.Errno) {
	return changed(s, escape)
}

// Unescape returns the text in which each escape of s is replaced by its character.
func Unescape(s string) (string, api.Errno) {
	if e := check(s); e != api.OK {
		return "", e
	}
	var b strings.Builder
	for {
		before, behind, ok := strings.Cut(s, `\`)
		b.WriteString(before)
		if !ok {
			return limited(b.String())
		}
		c, rest, ok := escaped(behind)
		if !ok {
			return "", api.ErrSyntax
		}
		b.WriteRune(c)
		s = rest
	}
}

// escape returns what stands for a character in an Escape.
func escape(c rune) string {
	switch {
	case c == '\\':
		return `\\`
	case c < 0x20 || c > 0x7E:
		return `\x{` + strconv.FormatInt(int64(c), 16) + `}`
	}
	return string(c)
}

// escaped takes the text behind the `\` of an escape, and returns its character, what is behind it, and whether it is an escape.
func escaped(s string) (rune, string, bool) {
	if rest, ok := strings.CutPrefix(s, `\`); ok {
		return '\\', rest, true
	}
	s, ok := strings.CutPrefix(s, `x{`)
	if !ok {
		return 0, "", false
	}
	digits, rest, ok := strings.Cut(s, `}`)
	if !ok || len(digits) > maxHex {
		return 0, "", false
	}
	c, err := strconv.ParseUint(digits, 16, 32)
	if err != nil || !isCharacter(int(c)) {
		return 0, "", false
	}
	return rune(c), rest, true
}
