package scope

import (
	"slices"
	"strconv"
	"strings"
	"testing"

	"motley/api"
	"motley/tree"
)

// leaf returns a node with nothing in it.
func leaf(op int, s string) api.Node { return api.Node{Op: op, S: s} }

// with returns a node with a text and others in it.
func with(op int, s string, l ...api.Node) api.Node { return api.Node{Op: op, S: s, L: l} }

func number(n int) api.Node { return api.Node{Op: api.NNum, N: n} }

// parsed returns the program of a source.
func parsed(t *testing.T, s string) []api.Node {
	t.Helper()
	p, at, e := tree.Parse(s)
	if e != api.OK {
		t.Fatalf("%q: error %d at %d", s, e, at)
	}
	return p
}

// paths returns the paths of all nodes of a program, by the numbers of the nodes.
func paths(p []api.Node) [][]int {
	var all [][]int
	var walk func(l []api.Node, path []int)
	walk = func(l []api.Node, path []int) {
		for i, n := range l {
			here := append(slices.Clone(path), i)
			all = append(all, here)
			walk(n.L, here)
		}
	}
	walk(p, nil)
	return all
}

// node returns the node at the end of a path.
func node(p []api.Node, path []int) api.Node {
	n := api.Node{L: p}
	for _, i := range path {
		n = n.L[i]
	}
	return n
}

// pathOf returns the path of the one of the nodes with an operation that has a number among them, from 0 on.
func pathOf(p []api.Node, op, which int) []int {
	for _, path := range paths(p) {
		if node(p, path).Op == op {
			if which == 0 {
				return path
			}
			which--
		}
	}
	return nil
}

// meanings returns what Mean tells of each node that it takes, in order: `my` with a number, or a name.
func meanings(t *testing.T, p []api.Node) string {
	t.Helper()
	var l []string
	for _, path := range paths(p) {
		s, n, e := Mean(p, path)
		switch {
		case e == api.ErrType && s == "" && n == 0:
		case e == api.OK && s == "my" && n >= 0:
			l = append(l, s+strconv.Itoa(n))
		case e == api.OK && n == -1:
			l = append(l, s)
		default:
			t.Errorf("Mean of %v at %v: %q %d, error %d", p, path, s, n, e)
		}
	}
	return strings.Join(l, " ")
}

// spelled returns contexts as the first letters of their names, and -1 as `-`.
func spelled(l []int) string {
	var b strings.Builder
	for _, c := range l {
		b.WriteByte("-vomc"[c+1])
	}
	return b.String()
}
