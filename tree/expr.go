package tree

import "motley/api"

// levels returns the operators with two operands, those that bind least first, and what node each one makes.
func levels() [8]map[string]int {
	return [...]map[string]int{
		{"..": api.NBin},
		{"||": api.NLogic, "//": api.NLogic},
		{"&&": api.NLogic},
		{"&": api.NBin, "|": api.NBin, "^": api.NBin},
		{"==": api.NBin, "!=": api.NBin, "<=>": api.NBin, "eq": api.NBin, "ne": api.NBin, "cmp": api.NBin},
		{"<": api.NBin, ">": api.NBin, "<=": api.NBin, ">=": api.NBin, "lt": api.NBin, "gt": api.NBin, "le": api.NBin, "ge": api.NBin},
		{"+": api.NBin, "-": api.NBin, ".": api.NBin},
		{"*": api.NBin, "/": api.NBin, "%": api.NBin, "x": api.NBin},
	}
}

// isOnce reports whether a level has one operator at most.
func isOnce(level int) bool {
	return level == 0 || level == 4 || level == 5
}

// expr reads an expression, with the operators that are words and bind least.
func (p *parser) expr() api.Node {
	left := p.low()
	for p.word("or") {
		p.at++
		left = logic("||", left, p.low())
	}
	return left
}

func (p *parser) low() api.Node {
	left := p.negated()
	for p.word("and") {
		p.at++
		left = logic("&&", left, p.negated())
	}
	return left
}

func (p *parser) negated() api.Node {
	if !p.word("not") {
		return p.assign()
	}
	p.at++
	return one(api.NNot, p.negated())
}

func logic(op string, left, right api.Node) api.Node {
	return api.Node{Op: api.NLogic, S: op, L: []api.Node{left, right}}
}

// assign reads an expression as an element of a list.
func (p *parser) assign() api.Node {
	left := p.cond()
	t := p.token()
	if t.Kind != api.KSign {
		return left
	}
	if t.Text == "=" {
		if !isAssignable(left) {
			p.fail()
		}
		p.at++
		return pair(api.NAssign, left, p.assign())
	}
	if !isUpdate(t.Text) {
		return left
	}
	if !isChangeable(left) {
		p.fail()
	}
	p.at++
	return api.Node{Op: api.NUpdate, S: t.Text, L: []api.Node{left, p.assign()}}
}

// isUpdate reports whether a sign changes what stands left of it by what stands right.
func isUpdate(s string) bool {
	switch s {
	case "+=", "-=", "*=", "/=", "%=", ".=", "||=", "&&=", "//=":
		return true
	}
	return false
}

func (p *parser) cond() api.Node {
	c := p.level(0)
	if !p.sign("?") {
		return c
	}
	p.at++
	yes := p.assign()
	p.want(":")
	return api.Node{Op: api.NCond, L: []api.Node{c, yes, p.assign()}}
}

// level reads operands with the operators of one level, and of those that bind more, between them.
func (p *parser) level(n int) api.Node {
	if n == len(p.levels) {
		return p.bind()
	}
	left := p.level(n + 1)
	for {
		t := p.token()
		op := p.levels[n][t.Text]
		if op == 0 || t.Kind != api.KSign && t.Kind != api.KWord {
			return left
		}
		p.at++
		left = api.Node{Op: op, S: t.Text, L: []api.Node{left, p.level(n + 1)}}
		if isOnce(n) {
			return left
		}
	}
}

// bind reads an operand that may be bound to a pattern.
func (p *parser) bind() api.Node {
	x := p.unary()
	not := p.sign("!~")
	if !not && !p.sign("=~") {
		return x
	}
	p.at++
	n, ok := matched(p.token(), x)
	if !ok {
		p.fail()
	}
	p.at++
	return turned(n, not)
}

// matched returns the node of a pattern, replacement or transliteration of a subject.
func matched(t api.Token, subject api.Node) (api.Node, bool) {
	switch t.Kind {
	case api.KPat:
		return api.Node{Op: api.NMatch, S: t.Text, T: t.More, L: []api.Node{subject}}, true
	case api.KSubst:
		return api.Node{Op: api.NSubst, S: t.Text, T: t.More, L: []api.Node{subject, inter(t.Repl)}}, true
	case api.KTrans:
		flags := api.Node{Op: api.NStr, S: t.More}
		return api.Node{Op: api.NTrans, S: t.Text, T: t.Repl, L: []api.Node{subject, flags}}, true
	}
	return api.Node{}, false
}

func (p *parser) unary() api.Node {
	t := p.token()
	if t.Kind != api.KSign {
		return p.postfix()
	}
	switch t.Text {
	case "!":
		p.at++
		return one(api.NNot, p.unary())
	case "-":
		p.at++
		return one(api.NNeg, p.unary())
	case "\\":
		p.at++
		return one(api.NRef, p.unary())
	case "++", "--":
		place := p.at
		p.at++
		x := p.unary()
		return p.changed(place, t.Text+"x", x)
	}
	return p.postfix()
}

// postfix reads an operand that may have `++` or `--` behind it.
func (p *parser) postfix() api.Node {
	x := p.post()
	if !p.sign("++") && !p.sign("--") {
		return x
	}
	n := p.changed(p.at, "x"+p.token().Text, x)
	p.at++
	return n
}

// changed returns the node of a `++` or `--` that stands at a place.
func (p *parser) changed(place int, op string, x api.Node) api.Node {
	if !isChangeable(x) {
		p.at = place
		p.fail()
	}
	return api.Node{Op: api.NInc, S: op, L: []api.Node{x}}
}
