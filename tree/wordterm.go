package tree

import (
	"strings"

	"motley/api"
)

// words returns the list of words with blanks between them.
func words(s string) api.Node {
	n := api.Node{Op: api.NList}
	for _, w := range strings.Fields(s) {
		n.L = append(n.L, api.Node{Op: api.NStr, S: w})
	}
	return n
}

// wordTerm reads a term that begins with a word.
func (p *parser) wordTerm() api.Node {
	word := p.token().Text
	if isSign(p.ahead(1), "=>") {
		p.at++
		return api.Node{Op: api.NStr, S: word}
	}
	switch word {
	case "my", "our":
		return p.declared(word)
	case "local":
		return p.local()
	case "sub":
		p.at++
		return one(api.NSub, p.block())
	case "do":
		p.at++
		return one(api.NDo, p.block())
	case "eval":
		p.at++
		return one(api.NEval, p.block())
	case "map", "grep", "sort":
		p.at++
		b := p.block()
		l := api.Node{Op: api.NList, L: p.arguments()}
		return api.Node{Op: api.NEach, S: word, L: []api.Node{b, l}}
	}
	if _, _, ok := Arity(word); ok {
		return p.function(word)
	}
	return p.named()
}

// named reads the call of a sub, or a class.
func (p *parser) named() api.Node {
	name := p.name()
	if p.sign("(") {
		return api.Node{Op: api.NCall, S: name, L: p.arguments()}
	}
	if !p.sign("->") {
		p.fail()
	}
	return api.Node{Op: api.NStr, S: name}
}

// function reads the call of a function of the language.
func (p *parser) function(name string) api.Node {
	p.at++
	place := p.at
	args := p.arguments()
	if !takes(name, args) {
		p.at = place
		p.fail()
	}
	return api.Node{Op: api.NFunc, S: name, L: args}
}

// declared reads a `my` or `our` and its variables.
func (p *parser) declared(word string) api.Node {
	p.at++
	n := api.Node{Op: api.NMy, S: word}
	if !p.sign("(") {
		n.L = []api.Node{p.own()}
		return n
	}
	n.N = 1
	for {
		// This goes on behind the `(`, and behind each comma.
		p.at++
		n.L = append(n.L, p.own())
		if !p.sign(",") {
			p.want(")")
			return n
		}
	}
}

// own reads a variable that `my` and `our` can bring in.
func (p *parser) own() api.Node {
	t := p.token()
	if t.Kind != api.KVar || !isOwnName(t.Text[1:]) {
		p.fail()
	}
	op := 0
	switch t.Text[0] {
	case '$':
		op = api.NScalar
	case '@':
		op = api.NArray
	case '%':
		op = api.NHash
	default:
		p.fail()
	}
	p.at++
	return api.Node{Op: op, S: t.Text[1:]}
}

// local reads a `local` and what is local.
func (p *parser) local() api.Node {
	place := p.at
	p.at++
	x := p.unary()
	if !isLocalable(x) {
		p.at = place
		p.fail()
	}
	return api.Node{Op: api.NMy, S: "local", L: []api.Node{x}}
}
