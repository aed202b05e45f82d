package show

import (
	"math/rand"
	"strings"
	"testing"

	"motley/api"
	"motley/tree"
)

// programs calls a function with many random programs, most of which are valid.
func programs(seed int64, many int, do func(m *maker, p []api.Node)) {
	r := rand.New(rand.NewSource(seed))
	for range many {
		m := &maker{r: r, left: 1 + r.Intn(30)}
		do(m, m.some(0, 3, m.statement))
	}
}

// P5.1: what is printed is read as what it was, and printed likewise then.
func TestPrintIsRead(t *testing.T) {
	read := 0
	programs(5, 60000, func(m *maker, p []api.Node) {
		s, e := Print(p)
		if e == api.ErrLarge {
			return
		}
		q, at, e2 := tree.Parse(s)
		if e2 == api.ErrLarge {
			return
		}
		if e != api.OK || e2 != api.OK || !tree.Same(p, q) {
			t.Fatalf("%v is printed (%d) as\n%s\nwhich is read (%d at %d) as %v", p, e, s, e2, at, q)
		}
		if f, e := Format(s); f != s || e != api.OK {
			t.Fatalf("%s\nis formatted (%d) as\n%s", s, e, f)
		}
		if is, e := IsFormatted(s); !is || e != api.OK {
			t.Fatalf("%s\nis not formatted (%d)", s, e)
		}
		read++
	})
	if read < 40000 {
		t.Errorf("only %d programs were read", read)
	}
}

// P5.1: Print has the errors of tree.Validate, and a text for all other programs that is not too large.
func TestPrintOfWrong(t *testing.T) {
	wrong := 0
	programs(6, 30000, func(m *maker, p []api.Node) {
		p = tree.Copy(p)
		m.spoil(p)
		before := tree.Copy(p)
		s, e := Print(p)
		lines, e2 := Lines(p)
		valid := tree.Validate(p)
		if !tree.Same(p, before) {
			t.Fatalf("%v is changed to %v", before, p)
		}
		if e != e2 || e != valid && (e != api.ErrLarge || valid != api.OK) {
			t.Fatalf("Print is %d, Lines %d, Validate %d of %v", e, e2, valid, p)
		}
		if e != api.OK {
			wrong++
			if s != "" || len(lines) > 0 {
				t.Fatalf("%q and %v with the error %d", s, lines, e)
			}
		}
	})
	if wrong < 10000 {
		t.Errorf("only %d programs were wrong", wrong)
	}
}

// paths returns the paths to all nodes of some.
func paths(l []api.Node) [][]int {
	var all [][]int
	for i, n := range l {
		all = append(all, []int{i})
		for _, path := range paths(n.L) {
			all = append(all, append([]int{i}, path...))
		}
	}
	return all
}

// P5.1: the text of each expression is read as this one where a list may stand; statements have none.
func TestExprIsRead(t *testing.T) {
	read, statements := 0, 0
	programs(7, 3000, func(m *maker, p []api.Node) {
		if tree.Validate(p) != api.OK {
			return
		}
		for _, path := range paths(p) {
			n, _, _ := tree.At(p, path)
			s, e := Expr(p, path)
			if n.Op >= api.NExpr {
				if s != "" || e != api.ErrType {
					t.Fatalf("the statement %v is printed as %q, %d", n, s, e)
				}
				statements++
				continue
			}
			x, _, e2 := tree.ParseExpr("f(" + s + ")")
			if e2 == api.ErrLarge {
				continue
			}
			if e != api.OK || e2 != api.OK || !tree.Same(x.L, []api.Node{n}) {
				t.Fatalf("%v is printed (%d) as %s\nwhich is read (%d) as %v", n, e, s, e2, x)
			}
			read++
		}
	})
	if read < 10000 || statements < 5000 {
		t.Errorf("only %d expressions were read, and %d statements were none", read, statements)
	}
}

// P5.2: a statement begins where the text of those before it ends.
func TestLinesOfRandom(t *testing.T) {
	programs(8, 10000, func(m *maker, p []api.Node) {
		whole, e := Print(p)
		if e != api.OK {
			return
		}
		lines, e := Lines(p)
		if e != api.OK || len(lines) != len(p) {
			t.Fatalf("Lines are %v (%d) of %v", lines, e, p)
		}
		for i := range p {
			before, _ := Print(p[:i])
			if !strings.HasPrefix(whole, before) || lines[i] != 1+strings.Count(before, "\n") {
				t.Fatalf("Lines are %v of\n%s", lines, whole)
			}
		}
	})
}

// P5.2: Inter of a random text is read as this text.
func TestInterIsRead(t *testing.T) {
	programs(9, 20000, func(m *maker, _ []api.Node) {
		n := m.join()
		if m.r.Intn(4) == 0 {
			n = leaf(api.NStr, m.text()+m.text())
		}
		s, e := Inter(n)
		x, e2 := tree.Inter(s)
		if e != api.OK || e2 != api.OK || !tree.Same([]api.Node{x}, []api.Node{n}) {
			t.Fatalf("%v is printed (%d) as %s\nwhich is read (%d) as %v", n, e, s, e2, x)
		}
		if strings.Trim(s, printed7) != "" {
			t.Fatalf("%q has bytes that sources do not have, or a tab or line feed", s)
		}
	})
}

// P5.2: Inter refuses the nodes that tree.Inter does not make.
func TestInterOfWrong(t *testing.T) {
	wrong := 0
	programs(10, 30000, func(m *maker, _ []api.Node) {
		l := tree.Copy([]api.Node{m.join()})
		m.spoil(l)
		n := l[0]
		s, e := Inter(n)
		valid := tree.Validate([]api.Node{with(api.NExpr, "", n)})
		if n.Op != api.NStr && n.Op != api.NJoin {
			valid = api.ErrType
		}
		if valid == api.ErrLarge {
			valid = api.ErrArg
		}
		if e != valid {
			t.Fatalf("Inter is %d of %v", e, n)
		}
		if e != api.OK {
			wrong++
			if s != "" {
				t.Fatalf("%q with the error %d", s, e)
			}
		}
	})
	if wrong < 10000 {
		t.Errorf("only %d nodes were wrong", wrong)
	}
}
