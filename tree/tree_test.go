package tree

import (
	"math/rand"
	"slices"
	"strings"
	"testing"

	"motley/api"
)

func parsed(t *testing.T, s string) []api.Node {
	t.Helper()
	p, _, e := Parse(s)
	if e != api.OK {
		t.Fatalf("%q: %d", s, e)
	}
	return p
}

// P4.2: how many nodes there are, and how many in each other.
func TestCounts(t *testing.T) {
	for s, want := range map[string][2]int{"": {0, 0}, "return;": {1, 1}, "{}": {1, 1}, "1;": {2, 2}, "1; 2 + 3;": {6, 3}, "if (1) { { } } return;": {5, 3}, "print(\"$x[0]a\");": {7, 5}} {
		if n, deep, e := Counts(parsed(t, s)); n != want[0] || deep != want[1] || e != api.OK {
			t.Errorf("Counts of %q are %d, %d (%d), not %v", s, n, deep, e, want)
		}
	}
}

// P4.2: the names of subs and variables.
func TestSubsNames(t *testing.T) {
	cases := []struct{ s, subs, names string }{
		{"", "", ""},
		{"sub b {} sub a { sub A::c {} sub b {} }", "A::c a b", ""},
		{"{ my $f = sub { sub z {} }; }", "z", "$f"},
		{"$x + @x + %x + $y[0] + $z{a} + @u[1] + @v{1};", "", "$x %v %x %z @u @x @y"},
		{"$$x[0] + @{$y}{$z}; &f(1);", "", "$f $x $y $z"},
		{"for (@l) {} for my $i ($j) {} /a/;", "", "$_ $i $j @l"},
		{"for (1) {}", "", ""},
		{"my ($a, @b); our %c; local $d[0];", "", "$a %c @b @d"},
		{`print("a$x[$i]$h{k}@l$1$@"); s/a/$by/;`, "", "$1 $@ $_ $by $i %h @l @x"},
		{"A->f(x => 1);", "", ""},
		{"$b; $a; $A::b; $B; $a; $aa;", "", "$A::b $B $a $aa $b"},
	}
	for _, c := range cases {
		p := parsed(t, c.s)
		subs, e := Subs(p)
		if !slices.Equal(subs, strings.Fields(c.subs)) || e != api.OK {
			t.Errorf("Subs of %q are %q (%d)", c.s, subs, e)
		}
		names, e := Names(p)
		if !slices.Equal(names, strings.Fields(c.names)) || e != api.OK {
			t.Errorf("Names of %q are %q (%d), not %q", c.s, names, e, c.names)
		}
	}
}

// P4.2: what is at the end of a path.
func TestAt(t *testing.T) {
	p := parsed(t, "1; print($x, [2, 3]); if (1) { f(); }")
	for _, c := range []struct {
		path []int
		want string
	}{
		{[]int{0}, "(Expr (Num 1))"},
		{[]int{0, 0}, "(Num 1)"},
		{[]int{1, 0, 1}, "(NewArr (Num 2) (Num 3))"},
		{[]int{1, 0, 1, 1}, "(Num 3)"},
		{[]int{2, 1, 0, 0}, "(Call `f`)"},
	} {
		if n, ok, e := At(p, c.path); form(n) != c.want || !ok || e != api.OK {
			t.Errorf("At %v is %s (%v, %d)", c.path, form(n), ok, e)
		}
	}
	for _, path := range [][]int{nil, {}, {-1}, {3}, {0, 1}, {0, -1}, {0, 0, 0}, {1, 0, 1, 2}, {1 << 62}} {
		if n, ok, e := At(p, path); form(n) != form(api.Node{}) || ok || e != api.ErrNone {
			t.Errorf("At %v is %s (%v, %d)", path, form(n), ok, e)
		}
		if q, e := Replace(p, path, api.Node{}); q != nil || e != api.ErrNone {
			t.Errorf("Replace at %v is %s (%d)", path, forms(q), e)
		}
	}
}

// P4.2: programs with another node at the end of a path.
func TestReplace(t *testing.T) {
	s := `$x = "a$y"; f(1);`
	for _, c := range []struct {
		path []int
		n    api.Node
		want string
		e    api.Errno
	}{
		{[]int{1}, with(api.NReturn, ""), "(Expr (Assign (Scalar `x`) (Join (Str `a`) (Scalar `y`)))) Return", api.OK},
		{[]int{1, 0, 0}, leaf(api.NArray, "b"), "(Expr (Assign (Scalar `x`) (Join (Str `a`) (Scalar `y`)))) (Expr (Call `f` (Array `b`)))", api.OK},
		{[]int{0, 0, 0}, leaf(api.NArray, "b"), "(Expr (Assign (Array `b`) (Join (Str `a`) (Scalar `y`)))) (Expr (Call `f` (Num 1)))", api.OK},
		{[]int{0, 0, 0}, number(1), "", api.ErrArg},
		{[]int{0, 0, 1, 1}, leaf(api.NStr, "b"), "", api.ErrArg},
		{[]int{1}, number(1), "", api.ErrArg},
		{[]int{1, 0}, with(api.NReturn, ""), "", api.ErrArg},
		{[]int{1}, api.Node{}, "", api.ErrArg},
		{[]int{1}, api.Node{L: make([]api.Node, api.MaxNodes)}, "", api.ErrLarge},
		{[]int{1, 0, 0}, api.Node{Op: api.NList, L: make([]api.Node, api.MaxNodes-9)}, "", api.ErrArg},
		{[]int{1, 0, 0}, api.Node{Op: api.NList, L: make([]api.Node, api.MaxNodes-8)}, "", api.ErrLarge},
	} {
		p := parsed(t, s)
		q, e := Replace(p, c.path, c.n)
		if forms(q) != c.want || e != c.e || !Same(p, parsed(t, s)) {
			t.Errorf("Replace at %v by %.60s is %s (%d)", c.path, form(c.n), forms(q), e)
		}
	}
}

// P4.2: Copy and Same are for any nodes.
func TestCopySame(t *testing.T) {
	x := api.Node{Op: -3, S: "a", T: "\xff", N: 1 << 60, L: []api.Node{{Op: 1}, {Op: 99, L: []api.Node{{S: "b"}}}}}
	p := []api.Node{x, {}}
	q := Copy(p)
	if !Same(p, q) || !Same(q, p) {
		t.Error("a copy is not the same")
	}
	q[0].L[1].L[0].S = "c"
	if Same(p, q) || p[0].L[1].L[0].S != "b" {
		t.Error("a copy shares memory")
	}
	if len(Copy(nil)) != 0 || !Same(nil, []api.Node{}) || !Same([]api.Node{{L: []api.Node{}}}, []api.Node{{}}) {
		t.Error("nil and empty are not the same")
	}
	for _, change := range []func(n *api.Node){
		func(n *api.Node) { n.Op++ }, func(n *api.Node) { n.S = "" }, func(n *api.Node) { n.T = "" }, func(n *api.Node) { n.N-- },
		func(n *api.Node) { n.L = n.L[:1] }, func(n *api.Node) { n.L[0].N = 1 }, func(n *api.Node) { n.L[0], n.L[1] = n.L[1], n.L[0] },
	} {
		q := Copy(p)
		change(&q[0])
		if Same(p, q) || Same(q, p) {
			t.Errorf("%s and %s are the same", forms(p), forms(q))
		}
	}
	if Same(p, p[:1]) || Same(p[:1], p) || Same(nil, p) {
		t.Error("nodes of other lengths are the same")
	}
}

// R2: all functions with programs return the errors of Validate first.
func TestErrorsOfPrograms(t *testing.T) {
	large := slices.Repeat([]api.Node{{Op: api.NReturn}}, api.MaxNodes+1)
	for want, p := range map[api.Errno][]api.Node{api.ErrArg: {{Op: api.NNum}}, api.ErrLarge: large} {
		if n, deep, e := Counts(p); n != 0 || deep != 0 || e != want {
			t.Errorf("Counts: %d, %d (%d)", n, deep, e)
		}
		if l, e := Subs(p); l != nil || e != want {
			t.Errorf("Subs: %q (%d)", l, e)
		}
		if l, e := Names(p); l != nil || e != want {
			t.Errorf("Names: %q (%d)", l, e)
		}
		if q, e := Replace(p, nil, api.Node{}); q != nil || e != want {
			t.Errorf("Replace: %s (%d)", forms(q), e)
		}
		if n, ok, e := At(p, []int{-1}); form(n) != form(api.Node{}) || ok || e != want {
			t.Errorf("At: %s (%v, %d)", form(n), ok, e)
		}
	}
}

// R5: results share no memory with arguments, and these are not changed.
func TestMemory(t *testing.T) {
	p := parsed(t, "f(1, [2]); { g(); }")
	before := Copy(p)
	n, _, _ := At(p, []int{0, 0})
	n.L[1].L[0].N = 9
	by := with(api.NReturn, "", with(api.NNewArr, "", number(1)))
	q, _ := Replace(p, []int{1, 0}, by)
	q[0].L[0].L[0].N = 9
	q[1].L[0].L[0].L[0].N = 9
	if !Same(p, before) || by.L[0].L[0].N != 1 {
		t.Error("a result shares memory with an argument")
	}
}

// P1, R6: no call panics, whatever its arguments are.
func TestAnyValues(t *testing.T) {
	r := rand.New(rand.NewSource(6))
	texts := []string{"", "a", "x", "$x", "my", "local", "map", "push", "undef", "split", "\xff", "++x", "+=", "..", "&&", "@", "%", "$", "\\", "[", "{", "1"}
	text := func() string {
		s := ""
		for range r.Intn(3) {
			s += texts[r.Intn(len(texts))]
		}
		return s
	}
	var node func(deep int) api.Node
	node = func(deep int) api.Node {
		n := api.Node{Op: r.Intn(54) - 2, S: text(), T: text(), N: r.Intn(4) - 1}
		if r.Intn(3) > 0 {
			n.T, n.N = "", 0
		}
		for i := r.Intn(4); i > 0 && deep > 0; i-- {
			n.L = append(n.L, node(deep-1))
		}
		return n
	}
	for range 20000 {
		p := []api.Node{node(4), node(2)}
		path := []int{r.Intn(3) - 1, r.Intn(3) - 1}
		Validate(p)
		Counts(p)
		Subs(p)
		Names(p)
		Replace(p, path, node(2))
		Replace(statement(number(1)), []int{0, 0}, node(3))
		At(p, path)
		if !Same(p, Copy(p)) {
			t.Fatalf("the copy of %s is another one", forms(p))
		}
		s := text() + text() + text()
		Parse(s)
		ParseExpr(s)
		Inter(s)
		IsName(s)
		Arity(s)
	}
}

// P1: programs of many levels are looked at, too.
func TestDeep(t *testing.T) {
	n := api.Node{Op: api.NList}
	for range 1 << 16 {
		n = with(api.NList, "", n)
	}
	p := statement(n)
	if e := Validate(p); e != api.ErrLarge {
		t.Errorf("Validate is %d", e)
	}
	if !Same(p, Copy(p)) {
		t.Error("the copy is another one")
	}
	if _, e := Replace(statement(number(1)), []int{0, 0}, n); e != api.ErrLarge {
		t.Errorf("Replace is %d", e)
	}
}
