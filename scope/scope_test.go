package scope

import (
	"slices"
	"testing"

	"motley/api"
)

// P6.3: the first NLeave that stands in no loop that it can leave.
func TestLoops(t *testing.T) {
	for _, c := range []struct {
		source   string
		place, k int
	}{
		{"", 0, 0},
		{"while (1) { last; next; } for (1) { last; } until (1) { next; }", 0, 0},
		{"last;", 0, 1},
		{"f(); { next; }", 3, 1},
		{"A: { last A; }", 1, 1},
		{"if (1) { last; }", 3, 1},
		{"while (1) { if (1) { { last; } } }", 0, 0},
		{"while (1) { last; } next; last;", 4, 1},
		// Labels.
		{"A: while (1) { B: for (1) { last A; next B; last; } }", 0, 0},
		{"A: while (1) { last B; }", 3, 1},
		{"while (1) { last A; }", 3, 1},
		{"A: while (1) { } while (1) { last A; }", 6, 1},
		{"A: while (1) { A: while (1) { last A; } last A; }", 0, 0},
		// Conditions and lists.
		{"while (do { last; }) { }", 3, 1},
		{"for (do { last; }) { }", 4, 1},
		{"while (1) { while (do { last; }) { } }", 0, 0},
		{"A: while (1) { B: while (do { last B; }) { } }", 6, 1},
		{"for my $x (1) { for (do { next; }) { } }", 0, 0},
		// Blocks that are gone through, and subs.
		{"while (1) { do { last; }; eval { next; }; map { last; } (1); sort { last; } (do { next; }); }", 0, 0},
		{"do { last; };", 3, 1},
		{"while (1) { sub { last; }; }", 6, 1},
		{"while (1) { sub f { last; } }", 5, 1},
		{"while (1) { BEGIN { last; } }", 5, 1},
		{"while (1) { sub { while (1) { last; } }; last; }", 0, 0},
		{"A: while (1) { sub { while (1) { last A; } }; }", 9, 1},
		{"sub f { for (1) { next; } }", 0, 0},
	} {
		place, k, e := Loops(parsed(t, c.source))
		if place != c.place || k != c.k || e != api.OK {
			t.Errorf("%q: %d %d, error %d, want %d %d", c.source, place, k, e, c.place, c.k)
		}
	}
}

// P6.2: the names of `my` variables from outside of a sub.
func TestCaptures(t *testing.T) {
	for _, c := range []struct {
		op, which int
		source    string
		want      []string
	}{
		{api.NSub, 0, "my $x; my @x; my %y; my $z; sub { $x; $y{a}; $x[0]; $y; };", []string{"$x", "%y", "@x"}},
		{api.NSub, 0, "sub { my $x; $x; };", nil},
		{api.NSub, 0, "my $x; sub { my $x; $x; };", nil},
		{api.NSub, 0, "my $x; sub { my $x = $x; $x; };", []string{"$x"}},
		{api.NSub, 0, "my $x = sub { $x; };", nil},
		{api.NSub, 0, "my $x; sub { sub { $x; }; };", []string{"$x"}},
		{api.NSub, 1, "my $x; sub { my $y; sub { $x; $y; }; };", []string{"$x", "$y"}},
		{api.NSub, 0, "my $x; sub { my $y; sub { $x; $y; }; };", []string{"$x"}},
		{api.NSub, 0, "my $x; sub { }; $x;", nil},
		{api.NSub, 0, "my $x; sub { sub f { $x; } };", []string{"$x"}},
		{api.NDefine, 0, "my $x; my $y; sub f { map { $x; } (do { $y; }); }", []string{"$x", "$y"}},
		{api.NDefine, 0, "my $x; { my $x; sub f { $x; } } $x;", []string{"$x"}},
		{api.NDefine, 0, "sub f { $x; } my $x;", nil},
		{api.NDefine, 0, "our $x; sub f { $x; @_; }", nil},
		{api.NDefine, 0, "my $x; sub f { our $x; $x; }", nil},
		{api.NDefine, 0, "my $x; sub f { local $x; my $y = \"$x\"; }", []string{"$x"}},
		{api.NSub, 0, "for my $i (1) { sub { $i; }; }", []string{"$i"}},
		{api.NSub, 0, "sub { for my $i (1) { $i; } };", nil},
		{api.NSub, 0, "if (my $x) { sub { $x; }; }", []string{"$x"}},
		{api.NSub, 0, "if (my $x = sub { $x; }) { }", nil},
		{api.NSub, 0, "my ($c, $a, @b); my %d; sub { $d{$c}; \"$b[0]$a\"; $c; };", []string{"$a", "$c", "%d", "@b"}},
	} {
		p := parsed(t, c.source)
		got, e := Captures(p, pathOf(p, c.op, c.which))
		if e != api.OK || !slices.Equal(got, c.want) {
			t.Errorf("%q: %v, error %d, want %v", c.source, got, e, c.want)
		}
	}
	p := parsed(t, "sub f { } sub { }; BEGIN { } do { };")
	for _, c := range []struct {
		path []int
		want api.Errno
	}{
		{nil, api.ErrNone}, {[]int{4}, api.ErrNone}, {[]int{0}, api.OK}, {[]int{0, 0}, api.ErrType}, {[]int{1}, api.ErrType},
		{[]int{1, 0}, api.OK}, {[]int{1, 0, 0}, api.ErrType}, {[]int{2}, api.ErrType}, {[]int{3, 0}, api.ErrType},
	} {
		if got, e := Captures(p, c.path); e != c.want || got != nil && len(got) > 0 {
			t.Errorf("Captures at %v: %v, error %d, want %d", c.path, got, e, c.want)
		}
	}
}

// P6.2: the variables of packages that nothing allows.
func TestStrict(t *testing.T) {
	for _, c := range []struct {
		source string
		want   []string
	}{
		{"", nil},
		{"$y = $x; @x; $h{a};", []string{"$main::x", "$main::y", "%main::h", "@main::x"}},
		{"my $x; $x; $_; @_; $@; $&; $1; %_;", nil},
		{"package A; $x; $B::x; $main::_;", []string{"$A::x", "$B::x", "$main::_"}},
		// `our`, wherever it stands, and what it means there.
		{"$x; our $x; @x;", []string{"@main::x"}},
		{"{ our ($x, @y); } $x; @y; $y;", []string{"$main::y"}},
		{"package A; our $x; package B; $x; $B::x;", []string{"$B::x"}},
		{"our $x; package B; $main::x; { package main; $x; }", nil},
		{"our $x;", nil},
		// `local`, which names what is local, and elements of it.
		{"local $x = $y; $x;", []string{"$main::y"}},
		{"local ($x, (@y, %z)); $x; @y; %z; $y;", []string{"$main::y"}},
		{"local $x[$i]; local $y{$k}; @x; %y;", []string{"$main::i", "$main::k"}},
		{"local @x[$i, 1]; local @y{$k, 1};", []string{"$main::i", "$main::k"}},
		{"local $x->[0]; local $$y{a};", []string{"$main::x", "$main::y"}},
		{"package A; local $x; package B; $x; $A::x;", []string{"$B::x"}},
		{"my $x; local $x; { package main; $main::x; }", []string{"$main::x"}},
		{"our $x; package A; local $x; $A::x;", []string{"$A::x"}},
		// `$a` and `$b` of any package, and these alone.
		{"$a; $b; @a; %b; package A; $a; $b; $B::a; $B::b; $c; $ab; $ca;", []string{"$A::ab", "$A::c", "$A::ca", "%main::b", "@main::a"}},
	} {
		got, e := Strict(parsed(t, c.source))
		if e != api.OK || !slices.Equal(got, c.want) {
			t.Errorf("%q: %v, error %d, want %v", c.source, got, e, c.want)
		}
	}
}

// P6.2: the variables of `my` that nothing else names.
func TestUnused(t *testing.T) {
	for _, c := range []struct {
		source string
		want   []string
	}{
		{"", nil},
		{"my $x; $x; our $y; local $z;", nil},
		{"my ($c, @b, %a); my $d;", []string{"$c", "@b", "%a", "$d"}},
		{"my $x = $x; my @y; $y;", []string{"$x", "@y"}},
		{"my $x; my $x; $x;", []string{"$x"}},
		{"my $x; { my $x; } $x;", []string{"$x"}},
		{"my $x; { my $x; }", []string{"$x", "$x"}},
		{"my ($x, $x); $x;", []string{"$x"}},
		{"for my $i (1) { } for my $j (1) { $j; } $i;", []string{"$i"}},
		{"for my $x (my $x) { }", []string{"$x", "$x"}},
		{"my @x; $x[0]; my %y; @y{1, 2}; my $z; local $z; my $t; \"$t\";", nil},
		{"my $x; sub { sub { $x; }; };", nil},
		{"my $x; our $x; $x;", []string{"$x"}},
	} {
		got, e := Unused(parsed(t, c.source))
		if e != api.OK || !slices.Equal(got, c.want) {
			t.Errorf("%q: %v, error %d, want %v", c.source, got, e, c.want)
		}
	}
}

// P6.2: the names of all NCall.
func TestCalls(t *testing.T) {
	for _, c := range []struct {
		source string
		want   []string
	}{
		{"", nil},
		{"sub f { } g(h(), A::b()); $x->(); $x->go(); &$y(); h(); print(a());", []string{"A::b", "a", "g", "h"}},
		{"package A; sub { do { f(); }; }; BEGIN { e(); }", []string{"e", "f"}},
	} {
		got, e := Calls(parsed(t, c.source))
		if e != api.OK || !slices.Equal(got, c.want) {
			t.Errorf("%q: %v, error %d, want %v", c.source, got, e, c.want)
		}
	}
}

// P6.1: all functions return the errors of tree.Validate first, and nothing with them.
func TestErrors(t *testing.T) {
	deep := number(1)
	for range api.MaxNest {
		deep = with(api.NRef, "", deep)
	}
	many := make([]api.Node, api.MaxNodes+1)
	for i := range many {
		many[i] = with(api.NReturn, "")
	}
	for _, c := range []struct {
		p    []api.Node
		want api.Errno
	}{
		{[]api.Node{with(api.NExpr, "", deep)}, api.ErrLarge},
		{many, api.ErrLarge},
		{[]api.Node{leaf(api.NScalar, "x")}, api.ErrArg},
		{[]api.Node{with(api.NExpr, "", leaf(api.NScalar, "0"))}, api.ErrArg},
		{[]api.Node{{Op: -1}}, api.ErrArg},
		{[]api.Node{{Op: api.NMy, S: "my"}}, api.ErrArg},
	} {
		path := []int{-1}
		s, n, e := Mean(c.p, path)
		check(t, "Mean", e, c.want, s == "" && n == 0)
		l, e := Declared(c.p)
		check(t, "Declared", e, c.want, len(l) == 0)
		l, e = Captures(c.p, path)
		check(t, "Captures", e, c.want, len(l) == 0)
		contexts, e := Contexts(c.p)
		check(t, "Contexts", e, c.want, len(contexts) == 0)
		n, e = Context(c.p, path)
		check(t, "Context", e, c.want, n == 0)
		s, e = Package(c.p, path)
		check(t, "Package", e, c.want, s == "")
		n, k, e := Loops(c.p)
		check(t, "Loops", e, c.want, n == 0 && k == 0)
		l, e = Strict(c.p)
		check(t, "Strict", e, c.want, len(l) == 0)
		q, e := Rename(c.p, path, "")
		check(t, "Rename", e, c.want, len(q) == 0)
		l, e = Unused(c.p)
		check(t, "Unused", e, c.want, len(l) == 0)
		l, e = Calls(c.p)
		check(t, "Calls", e, c.want, len(l) == 0)
	}
}

// check reports an error that is not the one that is wanted, or a result with it.
func check(t *testing.T, name string, e, want api.Errno, empty bool) {
	t.Helper()
	if e != want || !empty {
		t.Errorf("%s: error %d, want %d; no result: %v", name, e, want, empty)
	}
}
