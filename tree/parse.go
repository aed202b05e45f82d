package tree

import (
	"motley/api"
	"motley/lex"
)

// How a `{` is meant.
const (
	blockBrace = 1
	keyBrace   = 2 // that of a subscript
	hashBrace  = 3
)

// misfit is what a parser panics with: the number of the first token that does not fit.
type misfit int

// parser goes through the tokens of a source.
type parser struct {
	tokens []api.Token
	at     int // the number of the next token
	// levels has the operators with two operands, those that bind least first, and what node each one makes.
	levels [8]map[string]int
}

// parse returns what a rule of the grammar makes of all tokens of a source.
func parse(s string, rule func(p *parser) []api.Node) ([]api.Node, int, api.Errno) {
	tokens, n, e := lex.Lex(s)
	if e != api.OK {
		return nil, n, e
	}
	p := &parser{tokens: tokens, levels: levels()}
	l, place := p.all(rule)
	if place >= 0 {
		return nil, place, api.ErrSyntax
	}
	if isLarge(l) {
		return nil, 0, api.ErrLarge
	}
	return l, n, api.OK
}

// all returns what a rule makes of all tokens and -1, or the number of the first one that does not fit.
func (p *parser) all(rule func(p *parser) []api.Node) (l []api.Node, place int) {
	defer func() {
		if m, ok := recover().(misfit); ok {
			l, place = nil, int(m)
		}
	}()
	l = rule(p)
	if !p.done() {
		p.fail()
	}
	return l, -1
}

// fail leaves the parser at the next token.
func (p *parser) fail() {
	panic(misfit(p.at))
}

func (p *parser) done() bool {
	return p.at == len(p.tokens)
}

// token returns the next token, or one of no kind if they are used up.
func (p *parser) token() api.Token {
	return p.ahead(0)
}

// ahead returns the token that is n further than the next one, or one of no kind.
func (p *parser) ahead(n int) api.Token {
	if p.at+n >= len(p.tokens) {
		return api.Token{Kind: -1}
	}
	return p.tokens[p.at+n]
}

// sign reports whether the next token is a sign.
func (p *parser) sign(s string) bool {
	return isSign(p.token(), s)
}

func isSign(t api.Token, s string) bool {
	return t.Kind == api.KSign && t.Text == s
}

// word reports whether the next token is a word of the grammar.
func (p *parser) word(s string) bool {
	t := p.token()
	return t.Kind == api.KWord && t.Text == s
}

// opens reports whether the next token is a `{` that is meant in one way.
func (p *parser) opens(how int) bool {
	return p.sign("{") && p.token().Open == how
}

// want goes on behind a sign, which must be the next token.
func (p *parser) want(s string) {
	if !p.sign(s) {
		p.fail()
	}
	p.at++
}

// name takes the next token, which must be a name.
func (p *parser) name() string {
	t := p.token()
	if t.Kind != api.KWord || !IsName(t.Text) {
		p.fail()
	}
	p.at++
	return t.Text
}

// program reads statements to the end.
func program(p *parser) []api.Node {
	var l []api.Node
	for !p.done() {
		l = p.statement(l)
	}
	return l
}

// single reads one expression.
func single(p *parser) []api.Node {
	return []api.Node{p.expr()}
}

// block reads a block without a label.
func (p *parser) block() api.Node {
	if !p.opens(blockBrace) {
		p.fail()
	}
	p.at++
	var l []api.Node
	for !p.sign("}") {
		l = p.statement(l)
	}
	p.at++
	return api.Node{Op: api.NBlock, L: l}
}

// statement appends a statement to others; a `;` alone is none.
func (p *parser) statement(l []api.Node) []api.Node {
	if p.sign(";") {
		p.at++
		return l
	}
	label := p.label()
	t := p.token()
	switch {
	case p.opens(blockBrace), t.Kind == api.KWord && isLoop(t.Text):
		n := p.labelled(t.Text)
		n.T = label
		return append(l, n)
	case label != "":
		p.fail()
	case t.Kind == api.KWord:
		return append(l, p.worded(t.Text))
	}
	return append(l, p.simple())
}

// label takes a label and its `:`, if there is one.
func (p *parser) label() string {
	if p.token().Kind != api.KWord || !isSign(p.ahead(1), ":") || !IsName(p.token().Text) {
		return ""
	}
	name := p.name()
	p.at++
	return name
}

func isLoop(word string) bool {
	return word == "while" || word == "until" || word == "for"
}

// labelled reads a statement that can have a label and begins with a `{` or a word.
func (p *parser) labelled(first string) api.Node {
	if first == "{" {
		return p.block()
	}
	p.at++
	if first == "for" {
		return p.loop()
	}
	c := p.condition(first == "until")
	return pair(api.NWhile, c, p.block())
}

// condition reads a condition in parentheses, which may be turned round.
func (p *parser) condition(not bool) api.Node {
	p.want("(")
	c := p.expr()
	p.want(")")
	return turned(c, not)
}

// turned returns a condition, or that it does not hold.
func turned(c api.Node, not bool) api.Node {
	if not {
		return one(api.NNot, c)
	}
	return c
}

// one returns a node with another one in it.
func one(op int, x api.Node) api.Node {
	return api.Node{Op: op, L: []api.Node{x}}
}

// loop reads what stands behind a `for`.
func (p *parser) loop() api.Node {
	n := api.Node{Op: api.NFor, S: "_"}
	if p.word("my") {
		p.at++
		t := p.token()
		if t.Kind != api.KVar || t.Text[0] != '$' || !isOwnName(t.Text[1:]) {
			p.fail()
		}
		p.at++
		n.S, n.N = t.Text[1:], 1
	}
	l := api.Node{Op: api.NList, L: p.arguments()}
	n.L = []api.Node{l, p.block()}
	return n
}

// worded reads a statement that begins with a word.
func (p *parser) worded(word string) api.Node {
	switch word {
	case "if", "unless":
		return p.choice()
	case "sub":
		if p.ahead(1).Kind == api.KWord {
			p.at++
			name := p.name()
			return api.Node{Op: api.NDefine, S: name, L: []api.Node{p.block()}}
		}
	case "package":
		p.at++
		n := api.Node{Op: api.NPackage, S: p.name()}
		p.want(";")
		return n
	case "return":
		p.at++
		return p.returned()
	case "last", "next":
		p.at++
		n := api.Node{Op: api.NLeave, S: word}
		if p.token().Kind == api.KWord {
			n.T = p.name()
		}
		p.want(";")
		return n
	case "BEGIN", "END":
		p.at++
		return api.Node{Op: api.NPhase, S: word, L: []api.Node{p.block()}}
	}
	return p.simple()
}

// choice reads an `if` or `unless`.
func (p *parser) choice() api.Node {
	not := p.word("unless")
	p.at++
	c := p.condition(not)
	n := pair(api.NIf, c, p.block())
	for p.word("elsif") {
		p.at++
		n.L = append(n.L, p.condition(false))
		n.L = append(n.L, p.block())
	}
	if p.word("else") {
		p.at++
		n.L = append(n.L, p.block())
	}
	return n
}

// returned reads what stands behind a `return`.
func (p *parser) returned() api.Node {
	n := api.Node{Op: api.NReturn}
	if !p.sign(";") {
		n.L = []api.Node{p.expr()}
	}
	p.want(";")
	return n
}

// simple reads an expression as a statement, perhaps with a condition behind it.
func (p *parser) simple() api.Node {
	n := one(api.NExpr, p.expr())
	not := p.word("unless")
	if not || p.word("if") {
		p.at++
		c := turned(p.expr(), not)
		n = pair(api.NIf, c, one(api.NBlock, n))
	}
	p.want(";")
	return n
}
