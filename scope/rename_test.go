package scope

import (
	"slices"
	"testing"

	"motley/api"
)

// P6.3: the program with another name of a variable.
func TestRename(t *testing.T) {
	for _, c := range []struct {
		op, which        int
		source, to, want string
	}{
		{api.NMy, 0, "my $x = $x; $x; @x; $x[0];", "y", "my $y = $x; $y; @x; $x[0];"},
		{api.NMy, 0, "my ($x) = 1; { $x; my $x = $x; $x; } $x;", "y", "my ($y) = 1; { $y; my $x = $y; $x; } $y;"},
		{api.NMy, 1, "my ($x) = 1; { $x; my $x = $x; $x; } $x;", "y", "my ($x) = 1; { $x; my $y = $x; $y; } $x;"},
		{api.NMy, 0, "my @x; $x[0]; @x[1, 2]; \"@x$x[1]$x\"; $x; %x;", "y", "my @y; $y[0]; @y[1, 2]; \"@y$y[1]$x\"; $x; %x;"},
		{api.NMy, 0, "my %x; $x{x}; @x{'x'}; $x;", "y", "my %y; $y{x}; @y{'x'}; $x;"},
		{api.NFor, 0, "my $x; for my $x ($x) { $x; sub { $x; }; } $x;", "y", "my $x; for my $y ($x) { $y; sub { $y; }; } $x;"},
		{api.NMy, 0, "my $x; our $x; $x;", "y", "my $y; our $x; $x;"},
		// Names of other sigils, of subs, and whole ones are other names; a word of the grammar is a name of a variable.
		{api.NMy, 0, "my $x; @y; %y; y(); 'y'; $x{y}; $A::y; $x;", "y", "my $y; @y; %y; y(); 'y'; $x{y}; $A::y; $y;"},
		{api.NMy, 0, "my $x; $x;", "if", "my $if; $if;"},
		{api.NMy, 0, "my $x;", "abcdefghijkl", "my $abcdefghijkl;"},
	} {
		p := parsed(t, c.source)
		q, e := Rename(p, pathOf(p, c.op, c.which), c.to)
		if want := parsed(t, c.want); e != api.OK || !slices.EqualFunc(q, want, same) {
			t.Errorf("%q to %q: %v, error %d, want %v", c.source, c.to, q, e, want)
		}
		wipe(q)
		if !slices.EqualFunc(p, parsed(t, c.source), same) {
			t.Errorf("%q: Rename has changed its argument, or its result shares memory with it", c.source)
		}
	}
}

// P6.3: what Rename refuses.
func TestRenameErrors(t *testing.T) {
	source := "my $x; my ($a, $b); our $c; local $d; for my $i (1) { } for (1) { } $y; @z; our ($w); my ($v); \"$t\";"
	p := parsed(t, source)
	for _, c := range []struct {
		path []int
		to   string
		want api.Errno
	}{
		{nil, "n", api.ErrNone},
		{[]int{20}, "", api.ErrNone},
		{[]int{0}, "n", api.ErrType},
		{[]int{0, 0, 0}, "n", api.ErrType},
		{[]int{1, 0}, "n", api.ErrType},
		{[]int{2, 0}, "", api.ErrType},
		{[]int{3, 0}, "n", api.ErrType},
		{[]int{5}, "n", api.ErrType},
		{[]int{8, 0}, "n", api.ErrType},
		{[]int{0, 0}, "", api.ErrArg},
		{[]int{0, 0}, "1", api.ErrArg},
		{[]int{0, 0}, "_", api.ErrArg},
		{[]int{0, 0}, "&", api.ErrArg},
		{[]int{0, 0}, "A::n", api.ErrArg},
		{[]int{0, 0}, "a b", api.ErrArg},
		{[]int{0, 0}, "$n", api.ErrArg},
		{[]int{0, 0}, "\u00e9", api.ErrArg},
		{[]int{0, 0}, "abcdefghijklm", api.ErrArg},
		{[]int{0, 0}, "x", api.ErrArg},
		{[]int{0, 0}, "a", api.ErrArg},
		{[]int{0, 0}, "b", api.ErrArg},
		{[]int{0, 0}, "c", api.ErrArg},
		{[]int{0, 0}, "d", api.ErrArg},
		{[]int{0, 0}, "i", api.ErrArg},
		{[]int{0, 0}, "y", api.ErrArg},
		{[]int{0, 0}, "t", api.ErrArg},
		{[]int{4}, "x", api.ErrArg},
		{[]int{4}, "i", api.ErrArg},
		{[]int{4}, "2", api.ErrArg},
		{[]int{0, 0}, "z", api.OK},
		{[]int{9, 0}, "z", api.OK},
		{[]int{4}, "z", api.OK},
	} {
		q, e := Rename(p, c.path, c.to)
		if e != c.want || e != api.OK && q != nil {
			t.Errorf("Rename at %v to %q: %v, error %d, want %d", c.path, c.to, q, e, c.want)
		}
	}
}

// same reports whether nodes are equal in all fields.
func same(a, b api.Node) bool {
	return a.Op == b.Op && a.S == b.S && a.T == b.T && a.N == b.N && slices.EqualFunc(a.L, b.L, same)
}

// wipe makes all nodes empty.
func wipe(l []api.Node) {
	for i := range l {
		wipe(l[i].L)
		l[i] = api.Node{}
	}
}
