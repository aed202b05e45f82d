package lex

import (
	"strings"

	"motley/api"
)

// Flags of patterns and of transliterations, in their order.
const (
	patFlags   = "imsxg"
	transFlags = "cdr"
)

// quote reads a quote if one begins here.
func (c *scanner) quote() (api.Token, bool) {
	kind, size := quoteKind(c.s[c.at:])
	if size < 0 {
		return api.Token{}, false
	}
	c.at += size
	open := c.take()
	first := c.part(open)
	t := api.Token{Kind: kind}
	switch kind {
	case api.KStr:
		t.Text = plain(first, open)
	case api.KInter:
		t.Text = inter(first, open)
	case api.KWords:
		t.Text = strings.Join(strings.Fields(plain(first, open)), " ")
	case api.KPat:
		t.Text = unslashed(first)
		t.More = c.flags(patFlags)
	case api.KSubst:
		second, by := c.second(open)
		t.Text, t.Repl = unslashed(first), unslashed(inter(second, by))
		t.More = c.flags(patFlags)
	case api.KTrans:
		second, by := c.second(open)
		t.Text, t.Repl = plain(first, open), plain(second, by)
		t.More = c.flags(transFlags)
	}
	return t, true
}

// quoteKind returns the kind of the quote with which a text begins, and how many bytes stand before its delimiter (-1 if there is none).
func quoteKind(s string) (int, int) {
	switch s[0] {
	case '\'':
		return api.KStr, 0
	case '"':
		return api.KInter, 0
	case '/':
		return api.KPat, 0
	}
	n := wordSize(s)
	if n == len(s) || !isDelimiter(s[n]) {
		return 0, -1
	}
	switch s[:n] {
	case "q":
		return api.KStr, n
	case "qq":
		return api.KInter, n
	case "qw":
		return api.KWords, n
	case "m":
		return api.KPat, n
	case "s":
		return api.KSubst, n
	case "tr":
		return api.KTrans, n
	}
	return 0, -1
}

// part reads what stands behind an opening delimiter, up to the closing one.
func (c *scanner) part(open byte) string {
	end := partner(open)
	depth := 1
	var b strings.Builder
	for {
		x := c.take()
		switch x {
		case end:
			depth--
		case open:
			depth++
		case '\\':
			b.WriteByte(x)
			x = c.take()
		}
		if depth == 0 {
			return b.String()
		}
		b.WriteByte(x)
	}
}

// second reads the second part of a quote whose first one began with a delimiter; it returns the delimiter of the second, too.
func (c *scanner) second(open byte) (string, byte) {
	if partner(open) != open {
		c.blanks()
		open = c.take()
		if !isDelimiter(open) {
			panic(wrong(c.begin))
		}
	}
	return c.part(open), open
}

// flags reads some flags, each once at most, in their order.
func (c *scanner) flags(all string) string {
	from := c.at
	for i := range len(all) {
		if c.at < len(c.s) && c.s[c.at] == all[i] {
			c.at++
		}
	}
	return c.s[from:c.at]
}

// heredoc reads a heredoc if one begins here.
func (c *scanner) heredoc() (api.Token, bool) {
	rest, ok := strings.CutPrefix(c.s[c.at:], "<<")
	if !ok {
		return api.Token{}, false
	}
	word, size := mark(rest)
	if !IsWord(word) {
		return api.Token{}, false
	}
	c.at += len("<<") + size
	text := c.lines(word)
	if rest[0] == '\'' {
		return api.Token{Kind: api.KStr, Text: text}, true
	}
	// No delimiter but `"` stands around such a text.
	return api.Token{Kind: api.KInter, Text: inter(text, '"')}, true
}

// mark returns the word in quotes or without with which a text begins, and how many bytes it takes with them.
func mark(s string) (string, int) {
	if s != "" && (s[0] == '\'' || s[0] == '"') {
		word, _, closed := strings.Cut(s[1:], s[:1])
		if !closed {
			return "", 0
		}
		return word, len(word) + 2
	}
	n := wordSize(s)
	return s[:n], n
}

// lines returns the lines behind that of the place, up to one that is a word, and lets the source go on behind them.
func (c *scanner) lines(word string) string {
	line := strings.IndexByte(c.s[c.at:], '\n')
	if line < 0 {
		panic(wrong(c.begin))
	}
	key := c.at + line + 1
	from := key
	if to, ok := c.resume[key]; ok {
		// An earlier heredoc of the line comes first.
		from = to
	}
	for at := from; at < len(c.s); {
		last, _, _ := strings.Cut(c.s[at:], "\n")
		// The last line may have no line feed.
		next := min(at+len(last)+1, len(c.s))
		if last == word {
			c.resume[key] = next
			return c.s[from:at]
		}
		at = next
	}
	panic(wrong(c.begin))
}

// plain returns the text of a part without interpolation.
func plain(part string, open byte) string {
	return rewritten(part, func(piece string) string {
		if len(piece) == 2 && (piece[1] == '\\' || bounds(open, piece[1])) {
			return piece[1:]
		}
		return piece
	})
}

// inter returns the text of a part with interpolation: what would stand between `"` and `"`.
func inter(part string, open byte) string {
	return rewritten(part, func(piece string) string {
		if piece == `"` {
			return `\"`
		}
		if len(piece) == 2 && piece[1] != '"' && bounds(open, piece[1]) {
			return piece[1:]
		}
		return piece
	})
}

// unslashed returns a part without the `\` before each `/`.
func unslashed(part string) string {
	return rewritten(part, func(piece string) string {
		if piece == `\/` {
			return "/"
		}
		return piece
	})
}

// rewritten returns a text in which each byte, or a `\` with the byte that it takes along, is replaced.
func rewritten(s string, by func(piece string) string) string {
	var b strings.Builder
	for s != "" {
		n := 1
		if s[0] == '\\' {
			n = min(2, len(s))
		}
		b.WriteString(by(s[:n]))
		s = s[n:]
	}
	return b.String()
}

// bounds reports whether a byte is a delimiter of a quote that begins with one.
func bounds(open, x byte) bool {
	return x == open || x == partner(open)
}

// partner returns the delimiter with which a quote ends.
func partner(open byte) byte {
	switch open {
	case '(':
		return ')'
	case '[':
		return ']'
	case '{':
		return '}'
	case '<':
		return '>'
	}
	return open
}

func isDelimiter(x byte) bool {
	return strings.IndexByte(`([{</!|~'"`, x) >= 0
}
