package tree

import (
	"math/rand"
	"strings"
	"testing"

	"motley/api"
	"motley/lex"
)

// grammar is the grammar of the chapter, with what its text says of posts, elements, slices, calls and classes put into rules.
const grammar = `
program = { stmt }
block = "{b" { stmt } "}"
stmt = ";" | [ name ":" ] block | "sub" name block | "package" name ";"
  | ( "if" | "unless" ) "(" expr ")" block { "elsif" "(" expr ")" block } [ "else" block ]
  | [ name ":" ] ( "while" | "until" ) "(" expr ")" block
  | [ name ":" ] "for" [ "my" own-scalar ] "(" [ list ] ")" block
  | "return" [ expr ] ";" | ( "last" | "next" ) [ name ] ";" | ( "BEGIN" | "END" ) block
  | expr [ ( "if" | "unless" ) expr ] ";"
expr = low { "or" low }
low = neg { "and" neg }
neg = "not" neg | assign
assign = cond [ ( "=" | "+=" | "-=" | "*=" | "/=" | "%=" | ".=" | "||=" | "&&=" | "//=" ) assign ]
cond = range [ "?" assign ":" assign ]
range = dor [ ".." dor ]
dor = both { ( "||" | "//" ) both }
both = bits { "&&" bits }
bits = equal { ( "&" | "|" | "^" ) equal }
equal = rel [ ( "==" | "!=" | "<=>" | "eq" | "ne" | "cmp" ) rel ]
rel = sum [ ( "<" | ">" | "<=" | ">=" | "lt" | "gt" | "le" | "ge" ) sum ]
sum = prod { ( "+" | "-" | "." ) prod }
prod = bind { ( "*" | "/" | "%" | "x" ) bind }
bind = unary [ ( "=~" | "!~" ) ( pat | subst | trans ) ]
unary = ( "!" | "-" | "\" ) unary | ( "++" | "--" ) unary | post [ "++" | "--" ]
post = ( head | name "->" tail | term ) { "->" tail }
head = ( named-scalar | "$" ref ) [ inside { inside } { args } ]
tail = inside { inside } { args } | args { args } | name [ args ]
inside = "[" expr "]" | "{k" key "}"
args = "(" [ list ] ")"
key = word | expr
list = assign { ( "," | "=>" ) assign } [ "," ]
term = num | text | inter | words | pat | subst | trans | "(" [ list ] ")" | "[" [ list ] "]" | "{h" [ list ] "}"
  | other-scalar | hash-var | code-var args | ( array-var | "@" ref ) [ "[" [ list ] "]" | "{k" [ list ] "}" ]
  | "%" ref | "&" ref args
  | ( "my" | "our" ) ( own | "(" own { "," own } ")" ) | "local" unary
  | "sub" block | "do" block | "eval" block | ( "map" | "grep" | "sort" ) block "(" [ list ] ")"
  | name "(" [ list ] ")" | function "(" [ list ] ")" | word-before-comma
ref = "{k" expr "}" | scalar-var
`

// recogniser tells which beginnings of a list of tokens the rules of the grammar have, trying all ways.
type recogniser struct {
	rules  map[string][]string
	tokens []api.Token
	far    int // the last token at which a rule wanted another one
	known  map[string]map[int]map[int]bool
}

func newRecogniser() *recogniser {
	c := &recogniser{rules: map[string][]string{}}
	name := ""
	for _, line := range strings.Split(strings.TrimSpace(grammar), "\n") {
		l := strings.Fields(line)
		if len(l) > 1 && l[1] == "=" {
			name, l = l[0], l[2:]
		}
		c.rules[name] = append(c.rules[name], l...)
	}
	return c
}

// fits reports whether the grammar has all tokens, and the first one at which no way goes on.
func (c *recogniser) fits(rule string, tokens []api.Token) (bool, int) {
	c.tokens, c.far = tokens, 0
	c.known = map[string]map[int]map[int]bool{}
	ends := c.rule(rule, 0)
	if !ends[len(tokens)] {
		// Where a rule may end, only the end of the source fits beside what it wants.
		for end := range ends {
			c.far = max(c.far, end)
		}
	}
	return ends[len(tokens)], c.far
}

// rule returns where a rule can end that begins at a token.
func (c *recogniser) rule(name string, at int) map[int]bool {
	if c.known[name] == nil {
		c.known[name] = map[int]map[int]bool{}
	}
	ends, ok := c.known[name][at]
	if !ok {
		ends, _ = c.choice(c.rules[name], at)
		c.known[name][at] = ends
	}
	return ends
}

// choice returns where alternatives can end, and the words of the rule behind them.
func (c *recogniser) choice(l []string, at int) (map[int]bool, []string) {
	ends := map[int]bool{}
	for {
		now := map[int]bool{at: true}
		for len(l) > 0 && l[0] != "|" && l[0] != ")" && l[0] != "]" && l[0] != "}" {
			now, l = c.step(l, now)
		}
		for end := range now {
			ends[end] = true
		}
		if len(l) == 0 || l[0] != "|" {
			return ends, l
		}
		l = l[1:]
	}
}

// step returns where the first part of some words of a rule can end that begins at one of some tokens, and the words behind it.
func (c *recogniser) step(l []string, from map[int]bool) (map[int]bool, []string) {
	word := l[0]
	group := word == "(" || word == "[" || word == "{"
	rest := l[1:]
	if group {
		rest = behind(l)
	}
	ends := map[int]bool{}
	todo := []int{}
	for at := range from {
		todo = append(todo, at)
		if word == "[" || word == "{" {
			ends[at] = true
		}
	}
	for len(todo) > 0 {
		at := todo[0]
		todo = todo[1:]
		var next map[int]bool
		switch {
		case group:
			next, _ = c.choice(l[1:], at)
		case c.rules[word] != nil:
			next = c.rule(word, at)
		default:
			c.far = max(c.far, at)
			next = map[int]bool{}
			if at < len(c.tokens) && c.has(word, at) {
				next[at+1] = true
			}
		}
		for end := range next {
			if word == "{" && !ends[end] {
				todo = append(todo, end)
			}
			ends[end] = true
		}
	}
	return ends, rest
}

// behind returns the words of a rule behind a group in brackets with which they begin.
func behind(l []string) []string {
	depth := 0
	for i, w := range l {
		switch w {
		case "(", "[", "{":
			depth++
		case ")", "]", "}":
			depth--
		}
		if depth == 0 {
			return l[i+1:]
		}
	}
	return nil
}

// has reports whether a word of a rule stands for a token.
func (c *recogniser) has(word string, at int) bool {
	t := c.tokens[at]
	isVar := t.Kind == api.KVar
	sigil, name := "", ""
	if isVar {
		sigil, name = t.Text[:1], t.Text[1:]
	}
	own := lex.IsWord(name) && name != "_" && !strings.Contains(name, "::")
	_, _, function := Arity(t.Text)
	switch word {
	case "name":
		return t.Kind == api.KWord && IsName(t.Text)
	case "word":
		return t.Kind == api.KWord
	case "function":
		return t.Kind == api.KWord && function
	case "word-before-comma":
		return t.Kind == api.KWord && at+1 < len(c.tokens) && c.tokens[at+1].Kind == api.KSign && c.tokens[at+1].Text == "=>"
	case "num":
		return t.Kind == api.KNum && len(t.Text) <= 15 && (t.Text == "0" || t.Text[0] != '0')
	case "text":
		return t.Kind == api.KStr
	case "inter":
		return t.Kind == api.KInter
	case "words":
		return t.Kind == api.KWords
	case "pat":
		return t.Kind == api.KPat
	case "subst":
		return t.Kind == api.KSubst
	case "trans":
		return t.Kind == api.KTrans
	case "named-scalar":
		return sigil == "$" && lex.IsWord(name)
	case "other-scalar":
		return sigil == "$" && !lex.IsWord(name)
	case "scalar-var":
		return sigil == "$"
	case "array-var":
		return sigil == "@"
	case "hash-var":
		return sigil == "%"
	case "code-var":
		return sigil == "&"
	case "own":
		return isVar && sigil != "&" && own
	case "own-scalar":
		return sigil == "$" && own
	}
	word = strings.Trim(word, `"`)
	if open := strings.Index("bkh", strings.TrimPrefix(word, "{")) + 1; len(word) == 2 && word[0] == '{' {
		return t.Kind == api.KSign && t.Text == "{" && t.Open == open
	}
	return (t.Kind == api.KSign || t.Kind == api.KWord) && t.Text == word
}

// isNamedPlace reports whether arguments or left sides that are wrong can be found at a token.
func isNamedPlace(tokens []api.Token, at int) bool {
	t := tokens[at]
	if t.Kind == api.KWord {
		return t.Text == "local"
	}
	if t.Kind != api.KSign {
		return false
	}
	if t.Text == "(" {
		_, _, function := Arity(tokens[at-1].Text)
		return at > 0 && function
	}
	return t.Text == "=" || isUpdate(t.Text) || t.Text == "++" || t.Text == "--"
}

// soup returns a source of random tokens.
func soup(r *rand.Rand) string {
	all := strings.Fields("( ( ( ) ) ) [ ] { } { } , , ; ; ; : ? \\ = = == < + - * / % . .. ++ -- += ||= || && // ! =~ !~ => -> -> & | ^ " +
		"a f C::d go L: x if unless elsif else while until for do eval sub map grep sort my our local return package last next and or not eq lt BEGIN END " +
		"print push keys delete shift undef split wantarray if( for( f( print( push(@a map{ sub{ do{ $x{ ->[ ->{ ->( @x[ " +
		"1 0 12 007 1234567890123456 $x $y @a %h &f $_ $1 $@ @_ ${ @{ %{ &{ $$x @$x %$x &$x 'a' \"b$x\" qw(a) /p/ m/q/ s/a/b/ tr/a/b/")
	var b strings.Builder
	for range 1 + r.Intn(12) {
		b.WriteString(all[r.Intn(len(all))])
		if r.Intn(3) > 0 {
			b.WriteByte(' ')
		}
	}
	return b.String()
}

// stirred returns a source of a program some of whose tokens were taken out, changed or put elsewhere.
func stirred(r *rand.Rand) string {
	m := &maker{r: r, left: 1 + r.Intn(12)}
	s := source(m.some(1, 2, m.statement))
	l, _, e := lex.Lex(s)
	if e != api.OK || len(l) == 0 {
		return s
	}
	for range r.Intn(3) {
		i, j := r.Intn(len(l)), r.Intn(len(l))
		switch r.Intn(3) {
		case 0:
			l[i] = l[j]
		case 1:
			l[i], l[j] = l[j], l[i]
		case 2:
			l = append(l[:i:i], l[i+1:]...)
		}
		if len(l) == 0 {
			break
		}
	}
	var b strings.Builder
	for _, t := range l {
		switch t.Kind {
		case api.KStr, api.KInter, api.KWords:
			b.WriteString("'q' ")
		case api.KPat:
			b.WriteString("m/p/ ")
		case api.KSubst:
			b.WriteString("s/a/b/ ")
		case api.KTrans:
			b.WriteString("tr/a/b/ ")
		case api.KVar:
			b.WriteString(t.Text)
		default:
			b.WriteString(t.Text)
			if t.Text != "]" && t.Text != "}" {
				b.WriteByte(' ')
			}
		}
	}
	return b.String()
}

// P4.1: Parse has the sources that the grammar has, and finds the first token that does not fit. (Consequence, S3.) What it returns is valid.
func TestGrammar(t *testing.T) {
	r := rand.New(rand.NewSource(5))
	c := newRecogniser()
	read, named := 0, 0
	for i := range 20000 {
		s := soup(r)
		if i%2 == 0 {
			s = stirred(r)
		}
		tokens, _, e := lex.Lex(s)
		if e != api.OK {
			continue
		}
		rule := "program"
		p, n, e := Parse(s)
		if i%5 == 0 {
			rule = "expr"
			x, m, e2 := ParseExpr(s)
			p, n, e = statement(x), m, e2
		}
		fits, far := c.fits(rule, tokens)
		switch {
		case e == api.ErrLarge:
		case e == api.OK:
			read++
			if !fits || n != len(tokens) {
				t.Fatalf("%q: %d tokens are read as %s, but %d does not fit", s, n, forms(p), far)
			}
			if e := Validate(p); e != api.OK {
				t.Fatalf("%q is read as %s, which is not valid", s, forms(p))
			}
		case e != api.ErrSyntax || n > len(tokens):
			t.Fatalf("%q: %d at %d", s, e, n)
		case fits || n < far:
			named++
			if n == len(tokens) || !isNamedPlace(tokens, n) {
				t.Fatalf("%q: the token %d does not fit, not %d (%v)", s, n, far, fits)
			}
		case n != far:
			t.Fatalf("%q: the token %d does not fit, not %d", s, n, far)
		}
	}
	if read < 1500 || named < 75 {
		t.Errorf("only %d sources were read, and %d refused for arguments and left sides", read, named)
	}
}
