package scope

import (
	"maps"
	"math/rand"
	"slices"
	"strings"
	"testing"

	"motley/api"
	"motley/tree"
)

// programs calls a function with valid random programs: some of all kinds of nodes, others that name the same few variables often.
func programs(t *testing.T, seed int64, do func(r *rand.Rand, p []api.Node)) {
	t.Helper()
	r := rand.New(rand.NewSource(seed))
	valid := 0
	for i := range 400 {
		m := maker{r: r, left: 10 + r.Intn(50)}
		p := m.some(1, 6, m.statement)
		if i%2 == 0 {
			m.left = 30 + r.Intn(120)
			p = dense(t, &m)
		}
		if tree.Validate(p) != api.OK {
			continue
		}
		valid++
		do(r, p)
		if t.Failed() {
			t.Fatalf("program: %v", p)
		}
	}
	if valid < 250 {
		t.Fatalf("valid programs: %d", valid)
	}
}

// dense returns a program of templates in which S stands for statements, X for an expression and V for a variable.
func dense(t *testing.T, m *maker) []api.Node {
	t.Helper()
	s := "my $u; my ($v, @u); S S S S"
	for strings.ContainsAny(s, "SXV") {
		m.left--
		// Any one of those that there are, lest most programs be too deep.
		i := m.r.Intn(len(s))
		for !strings.Contains("SXV", s[i:i+1]) {
			i = (i + 1) % len(s)
		}
		by := ""
		switch s[i] {
		case 'S':
			by = m.pick("X; S", "X; S", "if (X) { S } elsif (X) { S } else { S }", "X if X;", "while (X) { S } S", "for my $V (X) { S } S", "for (X, X) { S }",
				"{ S } S", "sub f { S }", "BEGIN { S }", "package P; S", "package q2; S", "return X;", "A: while (1) { last A; S }", "for (X) { next; }")
			if m.left < 0 {
				by = "X;"
			}
		case 'X':
			by = m.pick("my $V = X", "my @V", "my ($V, %V, $V) = X", "our $V = $V", "our ($V, @V)", "local $V", "local ($V[X], @V)", "f(X, X)", "$V", "$V[X]",
				"$V{V}", "@V", "@V{X}", "sub { S }", "do { S }", "map { S } (X, X)", "sort { S } (X)", `"a$V @V $V[$V]"`, "$P::V", "(X, X)", "$V =~ s/a/$V/", "\\(X, X)", "$$V", "eval { S }")
			if m.left < 0 {
				by = "$V"
			}
		case 'V':
			by = m.pick("u", "u", "v", "a")
		}
		s = s[:i] + by + s[i+1:]
	}
	p, _, e := tree.Parse(s)
	if e == api.ErrSyntax {
		t.Fatalf("%s: no program", s)
	}
	if e == api.ErrLarge {
		m.left = 60
		return dense(t, m)
	}
	return p
}

// oracle answers by the path of a node, from the inside to the outside.
type oracle struct {
	p       []api.Node
	numbers map[string]int // by the text of a path
}

func newOracle(p []api.Node) oracle {
	o := oracle{p, map[string]int{}}
	for i, path := range paths(p) {
		o.numbers[key(path)] = i
	}
	return o
}

// key returns a text that differs for different paths.
func key(path []int) string {
	var b strings.Builder
	for _, i := range path {
		b.WriteRune(rune('A' + i))
	}
	return b.String()
}

// at returns the node at the end of a path, and the nodes in it.
func (o oracle) at(path []int) ([]api.Node, api.Node) {
	n := node(o.p, path)
	return n.L, n
}

// isBlock reports whether statements are in the node at the end of a path.
func (o oracle) isBlock(path []int) bool {
	return len(path) == 0 || node(o.p, path).Op == api.NBlock
}

// declarers returns the paths of the NMy with `my` or `our` in a node that are in no block in it, the last one first.
func (o oracle) declarers(path []int) [][]int {
	l, n := o.at(path)
	if n.Op == api.NBlock {
		return nil
	}
	var all [][]int
	for i := len(l) - 1; i >= 0; i-- {
		all = append(all, o.declarers(append(slices.Clone(path), i))...)
	}
	if n.Op == api.NMy && n.S != "local" {
		all = append(all, path)
	}
	return all
}

// pack returns the package that holds at the end of a path.
func (o oracle) pack(path []int) string {
	for d := len(path) - 1; d >= 0; d-- {
		if !o.isBlock(path[:d]) {
			continue
		}
		l, _ := o.at(path[:d])
		for i := path[d] - 1; i >= 0; i-- {
			if l[i].Op == api.NPackage {
				return l[i].S
			}
		}
	}
	return "main"
}

// lookup returns what a name with its sigil means at the end of a path.
func (o oracle) lookup(path []int, name string) variable {
	for d := len(path) - 1; d >= 0; d-- {
		_, n := o.at(path[:d])
		choice := n.Op == api.NIf || n.Op == api.NWhile || n.Op == api.NFor
		// Behind each condition and list there is the block from which on its names are known.
		if !o.isBlock(path[:d]) && !choice {
			continue
		}
		if n.Op == api.NFor && n.N == 1 && "$"+n.S == name && path[d] == 1 {
			return variable{name, o.numbers[key(path[:d])], 0}
		}
		for i := path[d] - 1; i >= 0; i-- {
			for _, my := range o.declarers(append(slices.Clone(path[:d]), i)) {
				if v, ok := o.declared(my, name); ok {
					return v
				}
			}
		}
	}
	return variable{o.whole(path, name), -1, 0}
}

// declared returns what an NMy makes a name mean, if it does.
func (o oracle) declared(path []int, name string) (variable, bool) {
	l, n := o.at(path)
	for i := len(l) - 1; i >= 0; i-- {
		if named(l[i]) != name {
			continue
		}
		if n.S == "our" {
			return variable{o.whole(path, name), -1, 0}, true
		}
		return variable{name, o.numbers[key(path)], i}, true
	}
	return variable{}, false
}

func (o oracle) whole(path []int, name string) string {
	if strings.Contains(name, "::") || slices.Contains(strings.Fields("_ @ & 1 2 3 4 5 6 7 8 9"), name[1:]) {
		return name
	}
	return name[:1] + o.pack(path) + "::" + name[1:]
}

// means returns what the node at the end of a path means, if Mean takes it.
func (o oracle) means(path []int) (variable, bool) {
	_, n := o.at(path)
	_, my := o.at(path[:len(path)-1])
	name := named(n)
	if name == "" || my.Op == api.NMy && my.S != "local" {
		return variable{}, false
	}
	return o.lookup(path, name), true
}

// P6.1: on random programs, Mean and Package agree with rules that go from a name outward.
func TestRandomMean(t *testing.T) {
	own := 0
	programs(t, 1, func(r *rand.Rand, p []api.Node) {
		o := newOracle(p)
		for _, path := range paths(p) {
			if pack, e := Package(p, path); pack != o.pack(path) || e != api.OK {
				t.Errorf("Package at %v: %s, error %d, want %s", path, pack, e, o.pack(path))
			}
			s, n, e := Mean(p, path)
			v, ok := o.means(path)
			switch {
			case !ok:
				if s != "" || n != 0 || e != api.ErrType {
					t.Errorf("Mean at %v: %q %d, error %d", path, s, n, e)
				}
			case v.number < 0:
				if s != v.name || n != -1 || e != api.OK {
					t.Errorf("Mean at %v: %q %d, error %d, want %s", path, s, n, e, v.name)
				}
			default:
				own++
				if s != "my" || n != v.number || e != api.OK {
					t.Errorf("Mean at %v: %q %d, error %d, want %d", path, s, n, e, v.number)
				}
			}
		}
	})
	if own < 1000 {
		t.Errorf("names of `my` variables: %d", own)
	}
}

// P6.2: on random programs, Captures and Unused follow from what names mean.
func TestRandomUses(t *testing.T) {
	captured := 0
	programs(t, 2, func(r *rand.Rand, p []api.Node) {
		o := newOracle(p)
		all := paths(p)
		used := map[variable]bool{}
		for _, path := range all {
			if v, ok := o.means(path); ok {
				used[v] = true
			}
		}
		var unused []string
		for number, path := range all {
			_, n := o.at(path)
			for _, x := range brought(n, number, &block{}) {
				if x.means.number >= 0 && !used[x.means] {
					unused = append(unused, x.name)
				}
			}
			if n.Op == api.NSub || n.Op == api.NDefine {
				want := o.captures(all, path)
				captured += len(want)
				if got, e := Captures(p, path); e != api.OK || !slices.Equal(got, want) {
					t.Errorf("Captures at %v: %v, error %d, want %v", path, got, e, want)
				}
			}
		}
		if got, e := Unused(p); e != api.OK || !slices.Equal(got, unused) {
			t.Errorf("Unused: %v, error %d, want %v", got, e, unused)
		}
	})
	if captured < 100 {
		t.Errorf("captured variables: %d", captured)
	}
}

// captures returns the set of the names of the variables that the sub at the end of a path takes along.
func (o oracle) captures(all [][]int, sub []int) []string {
	names := map[string]bool{}
	for _, path := range all {
		v, ok := o.means(path)
		inside := len(path) > len(sub) && slices.Equal(path[:len(sub)], sub)
		if !ok || !inside || v.number < 0 {
			continue
		}
		if at := all[v.number]; len(at) < len(sub) || !slices.Equal(at[:len(sub)], sub) {
			names[v.name] = true
		}
	}
	return slices.Sorted(maps.Keys(names))
}

// P6.3: on random programs, Rename makes a variable have another name, so that all names mean what they meant, in the same contexts.
func TestRandomRename(t *testing.T) {
	done := 0
	programs(t, 3, func(r *rand.Rand, p []api.Node) {
		if len(p) == 0 {
			return
		}
		all := paths(p)
		i := r.Intn(len(all))
		for len(brought(node(p, all[i]), 0, &block{})) != 1 && i < len(all)-1 {
			i++
		}
		path := all[i]
		q, e := Rename(p, path, "fresh")
		if e != api.OK {
			return
		}
		done++
		for i := range all {
			s, n, e := Mean(p, all[i])
			s2, n2, e2 := Mean(q, all[i])
			if s != s2 || n != n2 || e != e2 {
				t.Errorf("Mean at %v: %q %d, error %d, then %q %d, error %d", all[i], s, n, e, s2, n2, e2)
			}
		}
		before, _ := Contexts(p)
		after, e := Contexts(q)
		if e != api.OK || !slices.Equal(before, after) {
			t.Errorf("Contexts: %v, then %v, error %d", before, after, e)
		}
		back, e := Rename(q, path, oldName(node(p, path)))
		if e == api.OK && !tree.Same(back, p) {
			t.Errorf("renamed twice: %v", back)
		}
	})
	if done < 100 {
		t.Errorf("renamed: %d", done)
	}
}

// oldName returns the name of the variable that an NMy or NFor brings in.
func oldName(n api.Node) string {
	if n.Op == api.NFor {
		return n.S
	}
	return n.L[0].S
}
