package scope

import (
	"slices"
	"testing"

	"motley/api"
)

// P6.1: what the names of a program mean, in order.
func TestMean(t *testing.T) {
	for _, c := range []struct{ source, want string }{
		// The document's first example, and a variable of `my` that is used.
		{"my $x = $x;", "$main::x"},
		{"my $x; $x;", "my1"},
		{"my ($x, @y) = (@y, $x); $x; @y;", "@main::y $main::x my2 my2"},
		{"$x; my $x;", "$main::x"},
		// Known from behind the statement on, also what stands within an expression.
		{"f(my $x, $x); $x;", "$main::x my2"},
		{"my $f = sub { return $f; }; $f;", "$main::f my2"},
		{"return my $x; $x;", "my1"},
		// To the end of the block.
		{"{ my $x; $x; } $x;", "my2 $main::x"},
		{"my $x; { $x; { $x; } } $x;", "my1 my1 my1"},
		{"sub f { my $x; $x; } $x;", "my3 $main::x"},
		{"$y = do { my $x; $x; } + $x; $x;", "$main::y my7 $main::x $main::x"},
		{"eval { my $x; $x; }; $x;", "my4 $main::x"},
		{"map { my $x; $x; } ($x);", "my4 $main::x"},
		{"BEGIN { my $x; $x; } $x;", "my3 $main::x"},
		{"if (1) { my $x; $x; } else { $x; } $x;", "my4 $main::x $main::x"},
		{"my $x if 1; $x;", "$main::x"},
		// A second one of the same name hides the first.
		{"my $x; my $x; $x;", "my4"},
		{"my $x; $x; my $x = $x; $x;", "my1 my1 my7"},
		{"my $x; { my $x; $x; } $x;", "my5 my1"},
		{"my $x; { $x; my $x = $x; $x; } $x;", "my1 my1 my8 my1"},
		{"my ($x, $x); $x;", "my1"},
		{"(my $x, my $x); $x;", "my4"},
		// In a condition or list: from the block on, to the end of the block around it.
		{"if ((my $x) + $x) { $x; } elsif ($x) { $x; } else { $x; } $x;", "$main::x my2 my2 my2 my2 my2"},
		{"if ($x) { $x; } elsif (my $x) { $x; } else { $x; } $x;", "$main::x $main::x my5 my5 my5"},
		{"unless (my $x) { $x; } $x;", "my2 my2"},
		{"$x if my $x; $x;", "my1 my1"},
		{"{ if (my $x) { } $x; } $x;", "my2 $main::x"},
		{"while (my $x = $x) { $x; } $x;", "$main::x my2 my2"},
		{"until (my $x) { $x; } $x;", "my2 my2"},
		{"for (my @x = $x[0]) { @x; } @x;", "@main::x my3 my3"},
		{"if (do { my $x; $x; }) { $x; }", "my4 $main::x"},
		{"if (my $x = sub { $x; }) { $x; }", "$main::x my2"},
		{"while (sub { my $x; } and $x) { $x; }", "$main::x $main::x"},
		// The variable of an NFor, which hides one of its list.
		{"for my $x ($x) { $x; } $x;", "$main::x my0 $main::x"},
		{"for my $x (my $x) { $x; } $x;", "my0 my2"},
		{"my $x; for my $x ($x) { $x; { $x; } } $x;", "my1 my3 my3 my1"},
		{"for my $x (1) { my $x = $x; $x; }", "my0 my6"},
		{"for my $x (1) { @x; }", "@main::x"},
		{"for ($x) { $x; $_; }", "$main::x $main::x $_"},
		{"for my $i (1) { sub { return $i; }; }", "my0"},
	} {
		if got := meanings(t, parsed(t, c.source)); got != c.want {
			t.Errorf("%q: %s, want %s", c.source, got, c.want)
		}
	}
}

// P6.1: variables of packages, of `our` and of none, elements, and texts.
func TestMeanOfPackages(t *testing.T) {
	for _, c := range []struct{ source, want string }{
		{"$x; @x; %x;", "$main::x @main::x %main::x"},
		{"package A; $x; package B::C; @x; { package D; %x; } $x;", "$A::x @B::C::x %D::x $B::C::x"},
		{"if (1) { package A; $x; } $x;", "$A::x $main::x"},
		{"do { package A; $x; } + $x;", "$A::x $main::x"},
		{"package A; sub f { $x; }", "$A::x"},
		// Of no package.
		{"$_; @_; %_; $@; $&; $1; $9;", "$_ @_ %_ $@ $& $1 $9"},
		{"package A; $_; $_[0]; $_{a};", "$_ @_ %_"},
		// Whole names.
		{"my $x; $A::x; @A::B::x; $main::x; $main::_;", "$A::x @A::B::x $main::x $main::_"},
		{"package A; $A::x; $B::x;", "$A::x $B::x"},
		// `our`: the package that holds there.
		{"package A; our $x; package B; $x; $y;", "$A::x $B::y"},
		{"package A; { our $x = $x; package B; $x; } package C; $x;", "$A::x $A::x $C::x"},
		{"my $x; our $x = $x; $x;", "my1 $main::x"},
		{"our $x; my $x; $x;", "my4"},
		{"my $x; { our ($x, @y); $x; } $x;", "$main::x my1"},
		{"if (our $x) { package A; $x; } $x;", "$main::x $main::x"},
		{"package A; for my $x (our $x) { $x; } package B; $x;", "my1 $A::x"},
		// Names of different sigils, elements and slices.
		{"my $x; my @x; my %x; $x; @x; %x;", "my1 my4 my7"},
		{"my @x; $x[$x]; @x[$x, 1]; $x; $x{$x}; @x{'a'};", "my1 $main::x my1 $main::x $main::x %main::x $main::x %main::x"},
		{"my %x; $x{a}; @x{@x}; $x[0];", "my1 my1 @main::x @main::x"},
		{"my $x; $x->[0]; @{$x}; $$x{a}; &$x();", "my1 my1 my1 my1"},
		// Also in `local` and in texts.
		{"local $x; local ($y, @z); my $x; local $x;", "$main::x $main::y @main::z my9"},
		{`my $x; my @x; "$x $x[0] $x[$x] @x $x{a} $1";`, "my1 my4 my4 my1 my4 %main::x $1"},
		{"my $x; m/a/; $x =~ s/a/$x$y/; tr/a/b/;", "$_ my1 my1 $main::y $_"},
	} {
		if got := meanings(t, parsed(t, c.source)); got != c.want {
			t.Errorf("%q: %s, want %s", c.source, got, c.want)
		}
	}
}

// P6.1: what Mean does not take.
func TestMeanErrors(t *testing.T) {
	p := parsed(t, "my $x = 1; our @y; for my $z ($x[0]) { } print('a');")
	for _, c := range []struct {
		path []int
		want api.Errno
	}{
		{nil, api.ErrNone},
		{[]int{4}, api.ErrNone},
		{[]int{-1}, api.ErrNone},
		{[]int{0, 0, 0, 0, 0}, api.ErrNone},
		{[]int{0}, api.ErrType},
		{[]int{0, 0}, api.ErrType},
		{[]int{0, 0, 0}, api.ErrType},
		{[]int{0, 0, 0, 0}, api.ErrType},
		{[]int{0, 0, 1}, api.ErrType},
		{[]int{1, 0, 0}, api.ErrType},
		{[]int{2}, api.ErrType},
		{[]int{2, 0}, api.ErrType},
		{[]int{2, 0, 0}, api.ErrType},
		{[]int{2, 0, 0, 0}, api.OK},
		{[]int{2, 1}, api.ErrType},
		{[]int{3, 0, 0}, api.ErrType},
	} {
		s, n, e := Mean(p, c.path)
		if e != c.want || e != api.OK && (s != "" || n != 0) {
			t.Errorf("Mean at %v: %q %d, error %d, want %d", c.path, s, n, e, c.want)
		}
	}
}

// P6.1: the names that `my` brings in.
func TestDeclared(t *testing.T) {
	for _, c := range []struct {
		source string
		want   []string
	}{
		{"", nil},
		{"$x = 1; our $y; local $z; for (1) { }", nil},
		{"my $b; my ($a, @c, %d); my $b;", []string{"$b", "$a", "@c", "%d", "$b"}},
		{"for my $x (my @y) { my $z; }", []string{"$x", "@y", "$z"}},
		{"sub f { my $a; } map { my $b; } (my $c); BEGIN { my $d; }", []string{"$a", "$b", "$c", "$d"}},
		{"f(my => 1); my $x = my $y;", []string{"$x", "$y"}},
	} {
		got, e := Declared(parsed(t, c.source))
		if e != api.OK || !slices.Equal(got, c.want) {
			t.Errorf("%q: %v, error %d, want %v", c.source, got, e, c.want)
		}
	}
}

// P6.1: the package that holds at statements and expressions; an NPackage changes it behind itself.
func TestPackage(t *testing.T) {
	p := parsed(t, "f(); package A; f(); { f(); package B::C; f(); } f(); if (f()) { package D; sub f { g(); } } f(1);")
	want := "main main main A A A A A A B::C B::C A A A A A A D D D D A A A"
	var got string
	for i, path := range paths(p) {
		s, e := Package(p, path)
		if e != api.OK {
			t.Errorf("Package at %v: error %d", path, e)
		}
		if i > 0 {
			got += " "
		}
		got += s
	}
	if got != want {
		t.Errorf("packages: %s, want %s", got, want)
	}
	for _, path := range [][]int{nil, {8}, {0, 1}, {-1}} {
		if s, e := Package(p, path); s != "" || e != api.ErrNone {
			t.Errorf("Package at %v: %q, error %d", path, s, e)
		}
	}
}
