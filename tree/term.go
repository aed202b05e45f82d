package tree

import (
	"motley/api"
	"motley/lex"
)

// What can stand directly behind a term and what belongs to it, aside from `->`.
const (
	nothing  = 0
	calls    = 1 // the arguments of a call
	elements = 2 // these, and the place or key of an element
)

// post reads a term and what belongs to it behind it.
func (p *parser) post() api.Node {
	n, behind := p.term()
	for {
		switch {
		case p.sign("->"):
			p.at++
			n, behind = p.arrow(n)
		case behind == elements && (p.sign("[") || p.opens(keyBrace)):
			n = p.element(deref("@", n), deref("%", n))
		case behind != nothing && p.sign("("):
			n, behind = p.called(n), calls
		default:
			return n
		}
	}
}

// arrow reads what stands behind a `->`; it also returns what can stand behind that.
func (p *parser) arrow(n api.Node) (api.Node, int) {
	switch {
	case p.sign("["), p.opens(keyBrace):
		return p.element(deref("@", n), deref("%", n)), elements
	case p.sign("("):
		return p.called(n), calls
	}
	m := api.Node{Op: api.NMethod, S: p.name(), L: []api.Node{n}}
	if p.sign("(") {
		m.L = append(m.L, p.arguments()...)
	}
	return m, nothing
}

// deref returns the node of what a reference refers to.
func deref(sigil string, n api.Node) api.Node {
	return api.Node{Op: api.NDeref, S: sigil, L: []api.Node{n}}
}

// element reads a place in an array, or a key of a hash.
func (p *parser) element(array, hash api.Node) api.Node {
	if p.sign("[") {
		p.at++
		place := p.expr()
		p.want("]")
		return pair(api.NIndex, array, place)
	}
	p.at++
	key := p.key()
	p.want("}")
	return pair(api.NKey, hash, key)
}

// key reads a key of an element: a word alone is its text.
func (p *parser) key() api.Node {
	t := p.token()
	if t.Kind == api.KWord && (isSign(p.ahead(1), "}") || !beginsExpr(t.Text)) {
		p.at++
		return api.Node{Op: api.NStr, S: t.Text}
	}
	return p.expr()
}

// beginsExpr reports whether an expression can begin with a word that is not before `=>`.
func beginsExpr(word string) bool {
	switch word {
	case "not", "my", "our", "local", "sub", "do", "eval", "map", "grep", "sort":
		return true
	}
	_, _, function := Arity(word)
	return function || IsName(word)
}

// slice reads the places or keys of a slice.
func (p *parser) slice(array, hash api.Node) api.Node {
	op, whole, end := api.NSlice, array, "]"
	if p.sign("{") {
		op, whole, end = api.NKeys, hash, "}"
	}
	p.at++
	l, _ := p.list(end)
	return pair(op, whole, api.Node{Op: api.NList, L: l})
}

// called reads the arguments of the call of a code.
func (p *parser) called(code api.Node) api.Node {
	return api.Node{Op: api.NCallRef, L: append([]api.Node{code}, p.arguments()...)}
}

// arguments reads a list in parentheses.
func (p *parser) arguments() []api.Node {
	p.want("(")
	l, _ := p.list(")")
	return l
}

// list reads a list and the sign that ends it; it also returns whether there is a comma in it.
func (p *parser) list(end string) ([]api.Node, bool) {
	var l []api.Node
	comma := false
	for more := !p.sign(end); more; {
		l = append(l, p.assign())
		switch {
		case p.sign("=>"):
			p.at++
			comma = true
		case p.sign(","):
			p.at++
			comma = true
			// Behind the last element a comma may stand, but no `=>`.
			more = !p.sign(end)
		default:
			more = false
		}
	}
	p.want(end)
	return l, comma
}

// term reads a term; it also returns what can stand behind it.
func (p *parser) term() (api.Node, int) {
	t := p.token()
	switch t.Kind {
	case api.KVar:
		return p.variable()
	case api.KSign:
		return p.signed()
	case api.KWord:
		return p.wordTerm(), nothing
	}
	n, ok := quoted(t)
	if !ok {
		p.fail()
	}
	p.at++
	return n, nothing
}

// quoted returns the node of a number or quote.
func quoted(t api.Token) (api.Node, bool) {
	switch t.Kind {
	case api.KNum:
		n, ok := numberOf(t.Text)
		return api.Node{Op: api.NNum, N: n}, ok
	case api.KStr:
		return api.Node{Op: api.NStr, S: t.Text}, true
	case api.KInter:
		return inter(t.Text), true
	case api.KWords:
		return words(t.Text), true
	}
	return matched(t, api.Node{Op: api.NScalar, S: "_"})
}

// variable reads a variable, or an element or slice of it, or the call of a code in it.
func (p *parser) variable() (api.Node, int) {
	t := p.token()
	p.at++
	name := t.Text[1:]
	scalar := api.Node{Op: api.NScalar, S: name}
	array := api.Node{Op: api.NArray, S: name}
	hash := api.Node{Op: api.NHash, S: name}
	switch t.Text[0] {
	case '$':
		// Arrays and hashes have no such names as `1`.
		if !lex.IsWord(name) {
			return scalar, nothing
		}
		return p.elementOf(scalar, array, hash)
	case '@':
		return p.sliceOf(array, array, hash), nothing
	case '%':
		return hash, nothing
	}
	return p.called(scalar), nothing
}

// elementOf reads what stands behind a scalar if it is an element of an array or hash.
func (p *parser) elementOf(scalar, array, hash api.Node) (api.Node, int) {
	if p.sign("[") || p.opens(keyBrace) {
		return p.element(array, hash), elements
	}
	return scalar, nothing
}

// sliceOf reads what stands behind a whole array if it is a slice of an array or hash.
func (p *parser) sliceOf(whole, array, hash api.Node) api.Node {
	if p.sign("[") || p.opens(keyBrace) {
		return p.slice(array, hash)
	}
	return whole
}

// signed reads a term that begins with a sign.
func (p *parser) signed() (api.Node, int) {
	t := p.token()
	switch {
	case t.Text == "(":
		return p.parenthesised(), nothing
	case t.Text == "[":
		p.at++
		l, _ := p.list("]")
		return api.Node{Op: api.NNewArr, L: l}, nothing
	case p.opens(hashBrace):
		p.at++
		l, _ := p.list("}")
		return api.Node{Op: api.NNewHash, L: l}, nothing
	case t.Text == "$":
		r := p.reference()
		return p.elementOf(deref("$", r), deref("@", r), deref("%", r))
	case t.Text == "@":
		r := p.reference()
		return p.sliceOf(deref("@", r), deref("@", r), deref("%", r)), nothing
	case t.Text == "%":
		return deref("%", p.reference()), nothing
	case t.Text == "&":
		return p.called(p.reference()), nothing
	}
	p.fail()
	return api.Node{}, nothing
}

// reference reads a sigil and what refers to something behind it.
func (p *parser) reference() api.Node {
	p.at++
	if p.opens(keyBrace) {
		p.at++
		r := p.expr()
		p.want("}")
		return r
	}
	t := p.token()
	if t.Kind != api.KVar || t.Text[0] != '$' {
		p.fail()
	}
	p.at++
	return api.Node{Op: api.NScalar, S: t.Text[1:]}
}

// parenthesised reads a list in parentheses, or an expression.
func (p *parser) parenthesised() api.Node {
	p.at++
	l, comma := p.list(")")
	if len(l) == 1 && !comma && !p.sign("=") {
		return l[0]
	}
	return api.Node{Op: api.NList, L: l}
}
