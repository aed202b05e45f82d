package show

import (
	"strconv"
	"strings"

	"motley/api"
)

// text writes a text, between `'` and `'` if it can stand there.
func (w *writer) text(n api.Node) {
	if isPlain(n.S) {
		w.write("'", marked(n.S, `\'`), "'")
		return
	}
	w.write(`"`, inter(n), `"`)
}

// isPlain reports whether a text has only characters that sources have, and no line feed.
func isPlain(s string) bool {
	for _, c := range s {
		if c != '\t' && !isPrinted(c) {
			return false
		}
	}
	return true
}

func isPrinted(c rune) bool {
	return ' ' <= c && c <= '~'
}

// marked returns a text with a `\` before some of its characters.
func marked(s, some string) string {
	var b strings.Builder
	for _, c := range s {
		if strings.ContainsRune(some, c) {
			b.WriteByte('\\')
		}
		b.WriteRune(c)
	}
	return b.String()
}

// match writes a match, a replacement or a transliteration.
func (w *writer) match(n api.Node) {
	if !isTopic(n.L[0]) {
		w.operand(n.L[0])
		w.write(" =~ ")
	}
	switch n.Op {
	case api.NMatch:
		w.write("m/", marked(n.S, "/"), "/", n.T)
	case api.NSubst:
		w.write("s/", marked(n.S, "/"), "/", marked(inter(n.L[1]), "/"), "/", n.T)
	case api.NTrans:
		w.write("tr/", marked(n.S, `\/`), "/", marked(n.T, `\/`), "/", n.L[1].S)
	}
}

// inter returns what stands between `"` and `"` for a text or its parts.
func inter(n api.Node) string {
	if n.Op == api.NStr {
		return raw(n.S)
	}
	var b strings.Builder
	scalar := false // whether the part before is one
	for _, part := range n.L {
		s := piece(part)
		if scalar && part.Op == api.NStr && (s[0] == '[' || s[0] == '{') {
			// Otherwise an element would stand there.
			b.WriteByte('\\')
		}
		b.WriteString(s)
		scalar = part.Op == api.NScalar
	}
	return b.String()
}

// piece returns what stands for a part of a text between `"` and `"`.
func piece(n api.Node) string {
	switch n.Op {
	case api.NArray:
		return "@{" + n.S + "}"
	case api.NIndex:
		return "$" + n.L[0].S + "[" + index(n.L[1]) + "]"
	case api.NKey:
		return "$" + n.L[0].S + "{" + n.L[1].S + "}"
	case api.NScalar:
		if isWord(n.S) {
			return "${" + n.S + "}"
		}
		return "$" + n.S
	}
	return raw(n.S)
}

// index returns what stands for a place in an array between `"` and `"`.
func index(n api.Node) string {
	if n.Op == api.NNum {
		return strconv.Itoa(n.N)
	}
	return "$" + n.S
}

// raw returns what stands for a text without variables between `"` and `"`.
func raw(s string) string {
	var b strings.Builder
	for _, c := range s {
		switch {
		case c == '\n':
			b.WriteString(`\n`)
		case c == '\t':
			b.WriteString(`\t`)
		case c == '"', c == '\\', c == '$', c == '@':
			b.WriteByte('\\')
			b.WriteRune(c)
		case isPrinted(c):
			b.WriteRune(c)
		default:
			b.WriteString(`\x{` + strconv.FormatInt(int64(c), 16) + "}")
		}
	}
	return b.String()
}
