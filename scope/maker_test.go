package scope

import (
	"math/rand"
	"strings"

	"motley/api"
)

// maker makes random nodes, whose depth ends when there is nothing left to spend.
type maker struct {
	r    *rand.Rand
	left int
}

func (m *maker) pick(l ...string) string { return l[m.r.Intn(len(l))] }

func (m *maker) name() string {
	return m.pick("a", "f", "go", "A::b", "_", "abcdefghijkl", "y", "SUPER::m")
}

func (m *maker) word() string {
	return m.pick("a", "x", "if", "print", "_", "A::b", "s", "abcdefghijkl")
}

func (m *maker) own() string { return m.pick("a", "x", "m", "return", "_a", "abcdefghijkl") }

func (m *maker) text() string {
	return m.pick("", "a", "x y", "it's", "\"$x\" @y \\ /", "\n\t", "\u00e9\u20ac\x00\U0001f600", "[0]", "{a}", "0", "if", "-", "::", "12", "\x7f")
}

func (m *maker) scalarName() string {
	if m.r.Intn(4) == 0 {
		return m.pick("@", "&", "1", "9", "_")
	}
	return m.word()
}

// some returns from least to most nodes.
func (m *maker) some(least, most int, make func() api.Node) []api.Node {
	var l []api.Node
	for i := least + m.r.Intn(most-least+1); i > 0; i-- {
		l = append(l, make())
	}
	return l
}

func (m *maker) block() api.Node {
	return api.Node{Op: api.NBlock, L: m.some(0, 2, m.statement)}
}

func (m *maker) list() api.Node { return api.Node{Op: api.NList, L: m.some(0, 3, m.expr)} }

func (m *maker) label() string {
	if m.r.Intn(2) == 0 {
		return ""
	}
	return m.name()
}

func (m *maker) statement() api.Node {
	m.left--
	if m.left < 0 {
		return with(api.NReturn, "")
	}
	switch m.r.Intn(12) {
	case 0:
		n := api.Node{Op: api.NIf}
		for range 1 + m.r.Intn(2) {
			n.L = append(n.L, m.expr(), m.block())
		}
		n.L = append(n.L, m.some(0, 1, m.block)...)
		return n
	case 1:
		return api.Node{Op: api.NWhile, T: m.label(), L: []api.Node{m.expr(), m.block()}}
	case 2:
		n := api.Node{Op: api.NFor, T: m.label(), S: "_", L: []api.Node{m.list(), m.block()}}
		if m.r.Intn(2) == 0 {
			n.S, n.N = m.own(), 1
		}
		return n
	case 3:
		n := m.block()
		n.T = m.label()
		return n
	case 4:
		return with(api.NDefine, m.name(), m.block())
	case 5:
		return leaf(api.NPackage, m.name())
	case 6:
		return with(api.NReturn, "", m.some(0, 1, m.expr)...)
	case 7:
		return api.Node{Op: api.NLeave, S: m.pick("last", "next"), T: m.label()}
	case 8:
		return with(api.NPhase, m.pick("BEGIN", "END"), m.block())
	}
	return with(api.NExpr, "", m.expr())
}

func (m *maker) variable() api.Node {
	switch m.r.Intn(3) {
	case 0:
		return leaf(api.NArray, m.word())
	case 1:
		return leaf(api.NHash, m.word())
	}
	return leaf(api.NScalar, m.scalarName())
}

// container returns an array or hash.
func (m *maker) container(op int, sigil string) api.Node {
	if m.r.Intn(2) == 0 {
		return leaf(op, m.word())
	}
	return with(api.NDeref, sigil, m.expr())
}

func (m *maker) element() api.Node {
	if m.r.Intn(2) == 0 {
		return with(api.NIndex, "", m.container(api.NArray, "@"), m.expr())
	}
	return with(api.NKey, "", m.container(api.NHash, "%"), m.expr())
}

func (m *maker) slice() api.Node {
	if m.r.Intn(2) == 0 {
		return with(api.NSlice, "", m.container(api.NArray, "@"), m.list())
	}
	return with(api.NKeys, "", m.container(api.NHash, "%"), m.list())
}

func (m *maker) my() api.Node {
	op := []int{api.NScalar, api.NArray, api.NHash}
	own := func() api.Node { return leaf(op[m.r.Intn(3)], m.own()) }
	switch m.r.Intn(3) {
	case 0:
		return with(api.NMy, m.pick("my", "our"), own())
	case 1:
		return api.Node{Op: api.NMy, S: m.pick("my", "our"), N: 1, L: m.some(1, 3, own)}
	}
	return with(api.NMy, "local", m.localable())
}

func (m *maker) localable() api.Node {
	m.left--
	switch m.r.Intn(5) {
	case 0:
		if m.left > 0 {
			return with(api.NList, "", m.some(0, 3, m.localable)...)
		}
	case 1:
		return m.element()
	case 2:
		return m.slice()
	}
	return m.variable()
}

// scalar returns what `++` can stand before.
func (m *maker) scalar() api.Node {
	m.left--
	switch m.r.Intn(5) {
	case 0:
		return m.element()
	case 1:
		return with(api.NDeref, "$", m.expr())
	case 2:
		return with(api.NMy, m.pick("my", "our"), leaf(api.NScalar, m.own()))
	case 3:
		return with(api.NMy, "local", m.element())
	}
	return leaf(api.NScalar, m.scalarName())
}

func (m *maker) assignable() api.Node {
	m.left--
	switch m.r.Intn(7) {
	case 0:
		if m.left > 0 {
			l := m.some(0, 3, m.assignable)
			if m.r.Intn(3) == 0 {
				l = append(l, leaf(api.NFunc, "undef"))
			}
			return with(api.NList, "", l...)
		}
	case 1:
		return m.slice()
	case 2:
		return m.my()
	case 3:
		return m.scalar()
	case 4:
		return with(api.NDeref, m.pick("$", "@", "%"), m.expr())
	}
	return m.variable()
}

func (m *maker) join() api.Node {
	l := []api.Node{}
	text := false
	for range 1 + m.r.Intn(4) {
		if s := m.text(); s != "" && !text {
			l = append(l, leaf(api.NStr, s))
		}
		text = m.r.Intn(2) == 0 && len(l) > 0 && l[len(l)-1].Op == api.NStr
		if !text {
			l = append(l, m.part())
		}
	}
	if text {
		l = append(l, m.part())
	}
	return with(api.NJoin, "", l...)
}

func (m *maker) part() api.Node {
	switch m.r.Intn(5) {
	case 0:
		return leaf(api.NArray, m.word())
	case 1:
		return with(api.NIndex, "", leaf(api.NArray, m.word()), number(m.r.Intn(20)))
	case 2:
		return with(api.NIndex, "", leaf(api.NArray, m.word()), leaf(api.NScalar, m.word()))
	case 3:
		return with(api.NKey, "", leaf(api.NHash, m.word()), leaf(api.NStr, m.word()))
	}
	return leaf(api.NScalar, m.scalarName())
}

func (m *maker) call() api.Node {
	switch m.r.Intn(4) {
	case 0:
		return with(api.NCall, m.name(), m.some(0, 2, m.expr)...)
	case 1:
		return with(api.NCallRef, "", m.some(1, 3, m.expr)...)
	case 2:
		return with(api.NMethod, m.name(), m.some(1, 3, m.expr)...)
	}
	switch m.r.Intn(6) {
	case 0:
		return with(api.NFunc, m.pick("push", "unshift"), append([]api.Node{m.container(api.NArray, "@")}, m.some(0, 2, m.expr)...)...)
	case 1:
		return with(api.NFunc, m.pick("keys", "values", "undef"), m.container(api.NHash, "%"))
	case 2:
		return with(api.NFunc, m.pick("delete", "exists", "weaken", "untie", "undef"), m.element())
	case 3:
		return with(api.NFunc, "split", with(api.NMatch, ",", m.expr()), m.expr())
	case 4:
		return leaf(api.NFunc, m.pick("wantarray", "input", "print", "shift", "undef", "die"))
	}
	return with(api.NFunc, m.pick("print", "uc", "join", "ref", "guard"), m.expr())
}

func (m *maker) quoted() api.Node {
	switch m.r.Intn(6) {
	case 0:
		return number(m.r.Intn(1000))
	case 1:
		return m.join()
	case 2:
		return api.Node{Op: api.NMatch, S: m.pick("", "a/b", `\\a`, "\\\n", `\$x`, "(a|b)*"), T: m.pick("", "i", "g", "imsxg"), L: []api.Node{m.expr()}}
	case 3:
		by := m.join()
		if m.r.Intn(2) == 0 {
			by = leaf(api.NStr, m.text())
		}
		return api.Node{Op: api.NSubst, S: m.pick("", "a/b", `\.`), T: m.pick("", "g", "xg"), L: []api.Node{m.expr(), by}}
	case 4:
		return api.Node{Op: api.NTrans, S: m.pick("", "a-z", `\/\`, "\n\t'"), T: m.pick("", "/", "A-Z"), L: []api.Node{m.expr(), leaf(api.NStr, m.pick("", "c", "dr", "cdr"))}}
	}
	return leaf(api.NStr, m.text())
}

func (m *maker) operation() api.Node {
	switch m.r.Intn(8) {
	case 0:
		return with([]int{api.NRef, api.NNeg, api.NNot}[m.r.Intn(3)], "", m.expr())
	case 1:
		return with(api.NLogic, m.pick("&&", "||", "//"), m.expr(), m.expr())
	case 2:
		return with(api.NCond, "", m.expr(), m.expr(), m.expr())
	case 3, 4:
		return with(api.NAssign, "", m.assignable(), m.expr())
	case 5:
		return with(api.NUpdate, m.pick("+=", "-=", "*=", "/=", "%=", ".=", "||=", "&&=", "//="), m.scalar(), m.expr())
	case 6:
		return with(api.NInc, m.pick("++x", "x++", "--x", "x--"), m.scalar())
	}
	op := m.pick(strings.Fields(".. & | ^ == != <=> eq ne cmp < > <= >= lt gt le ge + - . * / % x")...)
	return with(api.NBin, op, m.expr(), m.expr())
}

func (m *maker) expr() api.Node {
	m.left--
	if m.left < 0 {
		return m.variable()
	}
	switch m.r.Intn(14) {
	case 0, 1:
		return m.quoted()
	case 2:
		return m.variable()
	case 3:
		return m.element()
	case 4:
		return m.slice()
	case 5:
		return with(api.NDeref, m.pick("$", "@", "%"), m.expr())
	case 6:
		return m.my()
	case 7:
		return with([]int{api.NList, api.NNewArr, api.NNewHash}[m.r.Intn(3)], "", m.some(0, 3, m.expr)...)
	case 8:
		return with([]int{api.NSub, api.NDo, api.NEval}[m.r.Intn(3)], "", m.block())
	case 9:
		return with(api.NEach, m.pick("map", "grep", "sort"), m.block(), m.list())
	case 10, 11:
		return m.call()
	}
	return m.operation()
}

// spoil changes a node of a program, which then mostly is not valid any more.
func (m *maker) spoil(p []api.Node) {
	var all []*api.Node
	var walk func(l []api.Node)
	walk = func(l []api.Node) {
		for i := range l {
			all = append(all, &l[i])
			walk(l[i].L)
		}
	}
	walk(p)
	if len(all) == 0 {
		return
	}
	n := all[m.r.Intn(len(all))]
	m.left = 2
	switch m.r.Intn(9) {
	case 0:
		n.Op = m.r.Intn(52) - 1
	case 1:
		n.S = m.pick("", "a", "x", "1", "@", "my", "local", "&", "&&", "+", "x++", "map", "push", "undef", "last", `\`, `a\/`, "\u00e9", "\xff", "abcdefghijklm", "A::b", "=")
	case 2:
		n.T = m.pick("", "a", "g", "gi", "cd", "x", "1", "\u00e9")
	case 3:
		n.N = []int{-1, 0, 1, 2, 999_999_999_999_999, 1_000_000_000_000_000}[m.r.Intn(6)]
	case 4:
		if len(n.L) > 0 {
			n.L = n.L[:len(n.L)-1]
		}
	case 5:
		n.L = append(n.L[:len(n.L):len(n.L)], m.expr())
	case 6:
		n.L = append(n.L[:len(n.L):len(n.L)], m.statement())
	case 7:
		if len(n.L) > 1 {
			n.L[0], n.L[1] = n.L[1], n.L[0]
		}
	case 8:
		*n = m.expr()
	}
}
