package lex

import (
	"strings"

	"motley/api"
)

// signs are all signs but those that only terms have; a longer one comes before one with which it begins.
var signs = [...]string{
	"<=>", "||=", "&&=", "//=",
	"==", "!=", "<=", ">=", "..", "++", "--", "+=", "-=", "*=", "/=", "%=", ".=",
	"||", "&&", "//", "=~", "!~", "=>", "->",
	"(", ")", "[", "]", "{", "}", ",", ";", ":", "?", "\\", "=", "<", ">", "+", "-", "*", "/", "%", ".", "!", "&", "|", "^",
}

// How a brace is meant.
const (
	block     = 1
	subscript = 2
	hash      = 3
)

// wrong is what a scanner panics with: the place at which it looked for a token that is not there.
type wrong int

// scanner goes through a source.
type scanner struct {
	s      string
	at     int // the place of the next byte
	begin  int // that of the first byte of the token that is read
	end    int // that behind the last token
	term   bool
	tokens []api.Token
	terms  []bool
	open   []int
	// resume has, for the begin of a line, where the source goes on if the lines from there on belong to heredocs.
	resume map[int]int
}

// scan returns the scanner that has gone through a source, or the place of the first wrong byte.
func scan(s string) (*scanner, int, api.Errno) {
	if len(s) > api.MaxSource {
		return nil, 0, api.ErrLarge
	}
	c := &scanner{s: s, term: true, resume: map[int]int{}}
	// A foreign byte may stand in a quote, which is read to its end nevertheless.
	if place := min(c.run(), foreign(s)); place < len(s) {
		return nil, place, api.ErrSyntax
	}
	if len(c.tokens) > api.MaxTokens {
		return nil, 0, api.ErrLarge
	}
	return c, 0, api.OK
}

// run reads all tokens; it returns the place at which there is none, or the number of bytes.
func (c *scanner) run() (place int) {
	defer func() {
		if w, ok := recover().(wrong); ok {
			place = int(w)
		}
	}()
	for c.gap(); c.at < len(c.s); c.gap() {
		c.begin = c.at
		c.add(c.read())
	}
	return len(c.s)
}

// step goes one byte on, and behind the lines of heredocs that begin there.
func (c *scanner) step() {
	c.at++
	if to, ok := c.resume[c.at]; ok {
		c.at = to
	}
}

// take returns the next byte of a token, which must not be at its end yet.
func (c *scanner) take() byte {
	if c.at >= len(c.s) {
		panic(wrong(c.begin))
	}
	x := c.s[c.at]
	c.step()
	return x
}

// blanks goes on behind blanks.
func (c *scanner) blanks() {
	for c.at < len(c.s) && isBlank(c.s[c.at]) {
		c.step()
	}
}

// gap goes on behind blanks and comments.
func (c *scanner) gap() {
	for c.blanks(); c.at < len(c.s) && c.s[c.at] == '#'; c.blanks() {
		for c.at < len(c.s) && c.s[c.at] != '\n' {
			c.step()
		}
	}
}

// add appends a token that has been read.
func (c *scanner) add(t api.Token) {
	t.At = c.begin
	if t.Kind == api.KSign {
		t.Open = c.meaning(t.Text)
	}
	c.tokens = append(c.tokens, t)
	c.terms = append(c.terms, c.term)
	c.term = expects(t, c.term)
	c.end = c.at
}

// expects reports whether a term is expected behind a token, which may be one that no source has; before: whether one was before it.
func expects(t api.Token, before bool) bool {
	switch t.Kind {
	case api.KNum, api.KVar, api.KStr, api.KInter, api.KWords, api.KPat, api.KSubst, api.KTrans:
		return false
	case api.KWord:
		return leadsTerm(t.Text)
	case api.KSign:
		switch t.Text {
		case "++", "--":
			return before
		case ")", "]":
			return false
		case "}":
			return t.Open != subscript && t.Open != hash
		}
	}
	return true
}

// leadsTerm reports whether a term is expected behind a word.
func leadsTerm(word string) bool {
	switch word {
	case "return", "and", "or", "not", "x", "lt", "gt", "le", "ge", "eq", "ne", "cmp", "if", "unless", "elsif", "else",
		"while", "until", "for", "do", "eval", "sub", "map", "grep", "sort", "my", "our", "local":
		return true
	}
	return false
}

// meaning returns how a sign is meant, and keeps what is open.
func (c *scanner) meaning(sign string) int {
	switch sign {
	case "{":
		open := c.brace()
		c.open = append(c.open, open)
		return open
	case "}":
		if len(c.open) == 0 {
			return block
		}
		open := c.open[len(c.open)-1]
		c.open = c.open[:len(c.open)-1]
		return open
	}
	return 0
}

// brace returns how the `{` is meant that follows the tokens so far.
func (c *scanner) brace() int {
	n := len(c.tokens)
	if n > 0 && c.takesSubscript(c.tokens[n-1]) {
		return subscript
	}
	if c.statementAt(n) || c.tokens[n-1].Kind == api.KWord || c.hasSign(n-1, ")") || c.labelEndsAt(n) {
		return block
	}
	return hash
}

// takesSubscript reports whether a `{` behind the last token is a subscript.
func (c *scanner) takesSubscript(last api.Token) bool {
	touching := c.end == c.begin
	switch last.Kind {
	case api.KVar:
		return touching
	case api.KSign:
		switch last.Text {
		case "->", "$", "@":
			return true
		case "]":
			return touching
		case "}":
			return touching && last.Open == subscript
		case "%", "&":
			// Where an operator is expected, these refer to nothing.
			return c.terms[len(c.terms)-1]
		}
	}
	return false
}

// statementAt reports whether a statement may begin with the token n: behind nothing, a `;` or a brace of a block.
func (c *scanner) statementAt(n int) bool {
	return n == 0 || c.hasSign(n-1, ";") || c.tokens[n-1].Open == block
}

// labelEndsAt reports whether the tokens before n end with a label and its `:`.
func (c *scanner) labelEndsAt(n int) bool {
	return n >= 2 && c.hasSign(n-1, ":") && c.tokens[n-2].Kind == api.KWord && c.statementAt(n-2)
}

// hasSign reports whether the token n is a sign.
func (c *scanner) hasSign(n int, sign string) bool {
	return c.tokens[n].Kind == api.KSign && c.tokens[n].Text == sign
}

// read reads the token at the place.
func (c *scanner) read() api.Token {
	if c.term {
		if t, ok := c.quote(); ok {
			return t
		}
		if t, ok := c.heredoc(); ok {
			return t
		}
		if t, ok := c.termSign(); ok {
			return t
		}
	}
	rest := c.s[c.at:]
	if n := c.word(rest); n > 0 {
		return c.cut(api.KWord, n)
	}
	if digits := len(rest) - len(strings.TrimLeft(rest, "0123456789")); digits > 0 {
		return c.cut(api.KNum, digits)
	}
	for _, sign := range signs {
		if strings.HasPrefix(rest, sign) {
			return c.cut(api.KSign, len(sign))
		}
	}
	panic(wrong(c.begin))
}

// cut reads a token of n bytes whose text is these.
func (c *scanner) cut(kind, n int) api.Token {
	c.at += n
	return api.Token{Kind: kind, Text: c.s[c.at-n : c.at]}
}

// word returns how many bytes the word has with which a text begins, which must not be too long.
func (c *scanner) word(s string) int {
	n := wordSize(s)
	if n > api.MaxName {
		panic(wrong(c.begin))
	}
	return n
}

// termSign reads a variable, or a `$` or `@` before what is referred to, if one begins here. (The other signs before such are operators, too.)
func (c *scanner) termSign() (api.Token, bool) {
	sigil, rest := c.s[c.at], c.s[c.at+1:]
	if strings.IndexByte("$@%&", sigil) < 0 || rest == "" {
		return api.Token{}, false
	}
	if n := c.word(rest); n > 0 {
		return c.cut(api.KVar, 1+n), true
	}
	if sigil == '$' && strings.IndexByte("@&123456789", rest[0]) >= 0 {
		return c.cut(api.KVar, 2), true
	}
	if (sigil == '$' || sigil == '@') && (rest[0] == '$' || rest[0] == '{') {
		return c.cut(api.KSign, 1), true
	}
	return api.Token{}, false
}
