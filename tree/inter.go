package tree

import (
	"strconv"
	"strings"
	"unicode/utf8"

	"motley/api"
	"motley/lex"
)

// maxDigits is how many digits a number of a program has at most, and numBound what it is below.
const (
	maxDigits = 15
	numBound  = 1_000_000_000_000_000
)

// Inter returns the node of a text with interpolation.
func Inter(raw string) (api.Node, api.Errno) {
	if len(raw) > api.MaxText {
		return api.Node{}, api.ErrLarge
	}
	return inter(raw), api.OK
}

// inter returns the node of a text with interpolation of any length.
func inter(raw string) api.Node {
	var l []api.Node
	var text strings.Builder
	for raw != "" {
		n, size := variableAt(raw)
		if size == 0 {
			piece, taken := pieceAt(raw)
			text.WriteString(piece)
			raw = raw[taken:]
			continue
		}
		l = append(withText(l, text.String()), n)
		text.Reset()
		raw = raw[size:]
	}
	if l == nil {
		return api.Node{Op: api.NStr, S: text.String()}
	}
	return api.Node{Op: api.NJoin, L: withText(l, text.String())}
}

// withText returns the parts of a text with a further one, if it is not empty.
func withText(l []api.Node, s string) []api.Node {
	if s == "" {
		return l
	}
	return append(l, api.Node{Op: api.NStr, S: s})
}

// pieceAt returns the text of the first byte, or of that with a `\`, of a raw text, and how many bytes these are.
func pieceAt(raw string) (string, int) {
	if raw[0] != '\\' || len(raw) == 1 {
		return raw[:1], 1
	}
	switch raw[1] {
	case 'n':
		return "\n", 2
	case 't':
		return "\t", 2
	case 'x':
		if c, size := numbered(raw); size > 0 {
			return string(c), size
		}
	}
	return raw[1:2], 2
}

// numbered returns the character that a raw text begins with as `\x{H}`, and how many bytes this takes (0 for none).
func numbered(raw string) (rune, int) {
	rest, ok := strings.CutPrefix(raw, `\x{`)
	digits, _, closed := strings.Cut(rest, "}")
	if !ok || !closed || len(digits) > 6 {
		return 0, 0
	}
	c, err := strconv.ParseUint(digits, 16, 32)
	if err != nil || !utf8.ValidRune(rune(c)) {
		return 0, 0
	}
	return rune(c), len(`\x{}`) + len(digits)
}

// variableAt returns the variable or element that a raw text begins with, and how many bytes it takes (0 for none).
func variableAt(raw string) (api.Node, int) {
	switch raw[0] {
	case '@':
		name, size := nameAt(raw[1:])
		if size > 0 {
			return api.Node{Op: api.NArray, S: name}, 1 + size
		}
	case '$':
		name, size := nameAt(raw[1:])
		if size > 0 {
			return elementAt(name, raw, 1+size)
		}
		if len(raw) > 1 && isOtherScalar(raw[1:2]) {
			return api.Node{Op: api.NScalar, S: raw[1:2]}, 2
		}
	}
	return api.Node{}, 0
}

// nameAt returns the name that a text begins with, perhaps in braces, and how many bytes it takes (0 for none).
func nameAt(s string) (string, int) {
	if name, size := braced(s); size > 0 {
		return name, size
	}
	n := wordSize(s)
	if !lex.IsWord(s[:n]) {
		return "", 0
	}
	return s[:n], n
}

// braced returns the name in braces that a text begins with, and how many bytes it takes (0 for none).
func braced(s string) (string, int) {
	rest, ok := strings.CutPrefix(s, "{")
	name, _, closed := strings.Cut(rest, "}")
	if !ok || !closed || !lex.IsWord(name) {
		return "", 0
	}
	return name, len(name) + 2
}

// elementAt returns the scalar of a name, or the element that a raw text begins with, whose name ends behind some bytes; and how many bytes it takes.
func elementAt(name, raw string, size int) (api.Node, int) {
	rest := raw[size:]
	if key, n := braced(rest); n > 0 {
		return pair(api.NKey, api.Node{Op: api.NHash, S: name}, api.Node{Op: api.NStr, S: key}), size + n
	}
	if place, n := placeAt(rest); n > 0 {
		return pair(api.NIndex, api.Node{Op: api.NArray, S: name}, place), size + n
	}
	return api.Node{Op: api.NScalar, S: name}, size
}

// placeAt returns the place in brackets that a text begins with, and how many bytes it takes (0 for none).
func placeAt(s string) (api.Node, int) {
	rest, ok := strings.CutPrefix(s, "[")
	place, _, closed := strings.Cut(rest, "]")
	if !ok || !closed {
		return api.Node{}, 0
	}
	size := len(place) + 2
	if name, ok := strings.CutPrefix(place, "$"); ok && lex.IsWord(name) {
		return api.Node{Op: api.NScalar, S: name}, size
	}
	if n, ok := numberOf(place); ok {
		return api.Node{Op: api.NNum, N: n}, size
	}
	return api.Node{}, 0
}

// numberOf returns the number that digits stand for.
func numberOf(digits string) (int, bool) {
	if digits == "" || len(digits) > maxDigits || digits[0] == '0' && digits != "0" {
		return 0, false
	}
	n := 0
	for i := range len(digits) {
		if digits[i] < '0' || digits[i] > '9' {
			return 0, false
		}
		n = n*10 + int(digits[i]-'0')
	}
	return n, true
}

// wordSize returns how many bytes the word has with which a text begins, however long it is.
func wordSize(s string) int {
	n := 0
	for n < len(s) {
		digit := '0' <= s[n] && s[n] <= '9'
		if lex.IsWord(s[n:n+1]) || n > 0 && digit {
			n++
		} else if n > 0 && strings.HasPrefix(s[n:], "::") && n+2 < len(s) && lex.IsWord(s[n+2:n+3]) {
			n += 2
		} else {
			break
		}
	}
	return n
}

// pair returns a node with two others in it.
func pair(op int, a, b api.Node) api.Node {
	return api.Node{Op: op, L: []api.Node{a, b}}
}
