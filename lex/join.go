package lex

import (
	"strings"

	"motley/api"
)

// Join returns a source that has some tokens.
func Join(l []api.Token) (string, api.Errno) {
	s := joined(l)
	k, _, e := Lex(s)
	if e != api.OK {
		return "", e
	}
	if !Same(k, l) {
		return "", api.ErrArg
	}
	return s, api.OK
}

// Quote returns a text as a quote without interpolation.
func Quote(s string) (string, api.Errno) {
	if len(s) > api.MaxText {
		return "", api.ErrLarge
	}
	if foreign(s) < len(s) {
		return "", api.ErrArg
	}
	return quoted(s), api.OK
}

// joined returns the spellings of tokens, with blanks where there may be some.
func joined(l []api.Token) string {
	var b strings.Builder
	term := true
	for i, t := range l {
		if i > 0 {
			before := l[i-1]
			if !touch(before, t, term) {
				b.WriteByte(' ')
			}
			term = expects(before, term)
		}
		b.WriteString(spelling(t))
	}
	return b.String()
}

// touch reports whether two tokens stand without a blank between them; term: whether a term was expected before the first one.
func touch(before, t api.Token, term bool) bool {
	if t.Kind == api.KSign && t.Text == "{" && t.Open == subscript {
		return true
	}
	if before.Kind != api.KSign {
		return false
	}
	switch before.Text {
	case "$", "@":
		return term
	case "%", "&":
		return term && strings.HasPrefix(spelling(t), "$")
	}
	return false
}

// spelling returns a token as it stands in a source.
func spelling(t api.Token) string {
	switch t.Kind {
	case api.KStr:
		return quoted(t.Text)
	case api.KInter:
		return `"` + t.Text + `"`
	case api.KWords:
		return "qw(" + escaped(t.Text, `()\`) + ")"
	case api.KPat:
		return "m/" + escaped(t.Text, "/") + "/" + t.More
	case api.KSubst:
		return "s/" + escaped(t.Text, "/") + "/" + escaped(t.Repl, "/") + "/" + t.More
	case api.KTrans:
		return "tr/" + escaped(t.Text, `/\`) + "/" + escaped(t.Repl, `/\`) + "/" + t.More
	}
	return t.Text
}

// quoted returns a text between `'` and `'`.
func quoted(s string) string {
	return "'" + escaped(s, `'\`) + "'"
}

// escaped returns a text with a `\` before each of some bytes.
func escaped(s, bytes string) string {
	var b strings.Builder
	for i := range len(s) {
		if strings.IndexByte(bytes, s[i]) >= 0 {
			b.WriteByte('\\')
		}
		b.WriteByte(s[i])
	}
	return b.String()
}
