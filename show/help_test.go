package show

import "motley/api"

// printed7 has the characters of seven bits that are printed.
const printed7 = " !\"#$%&'()*+,-./0123456789:;<=>?@ABCDEFGHIJKLMNOPQRSTUVWXYZ[\\]^_`abcdefghijklmnopqrstuvwxyz{|}~"

// leaf returns a node with nothing in it.
func leaf(op int, s string) api.Node { return api.Node{Op: op, S: s} }

// with returns a node with a text and others in it.
func with(op int, s string, l ...api.Node) api.Node { return api.Node{Op: op, S: s, L: l} }

func number(n int) api.Node { return api.Node{Op: api.NNum, N: n} }

func scalar(s string) api.Node { return leaf(api.NScalar, s) }

func text(s string) api.Node { return leaf(api.NStr, s) }

func list(l ...api.Node) api.Node { return with(api.NList, "", l...) }

func statement(n api.Node) []api.Node { return []api.Node{with(api.NExpr, "", n)} }
