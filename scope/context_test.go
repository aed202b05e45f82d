package scope

import (
	"strings"
	"testing"

	"motley/api"
)

// callContexts returns the contexts of the calls of a program by name, in order: the name and the context's first letter.
func callContexts(t *testing.T, p []api.Node) string {
	t.Helper()
	contexts, e := Contexts(p)
	if e != api.OK {
		t.Fatalf("Contexts of %v: error %d", p, e)
	}
	var l []string
	for i, path := range paths(p) {
		if n := node(p, path); n.Op == api.NCall {
			l = append(l, n.S+"="+spelled(contexts[i:i+1]))
		}
	}
	return strings.Join(l, " ")
}

// P6.3: the contexts of statements, by the calls in them.
func TestContextsOfStatements(t *testing.T) {
	for _, c := range []struct{ source, want string }{
		// The last statement of the program, which is a sub, and those before it.
		{"a(); b();", "a=v b=c"},
		{"a(); sub f { }", "a=v"},
		// The examples of the document.
		{"my ($a) = f(); my $a = f();", "f=m f=o"},
		{"f(sub { return ($x, g()); });", "f=c g=c"},
		// Blocks that have a value.
		{"sub f { a(); b(); } c();", "a=v b=c c=c"},
		{"sub f { a(); } sub { b(); c(); };", "a=c b=v c=c"},
		{"do { a(); b(); }; 1;", "a=v b=v"},
		{"$x = do { a(); b(); }; 1;", "a=v b=o"},
		{"@x = do { a(); b(); }; 1;", "a=v b=m"},
		{"do { a(); b(); };", "a=v b=c"},
		{"$x = eval { a(); b(); }; @x = eval { c(); };", "a=v b=o c=m"},
		{"map { a(); b(); } (c()); 1;", "a=v b=m c=m"},
		{"grep { a(); b(); } (c()); 1;", "a=v b=o c=m"},
		{"sort { a(); b(); } (c()); 1;", "a=v b=o c=m"},
		// Those that have none.
		{"BEGIN { a(); b(); } END { c(); }", "a=v b=v c=v"},
		{"while (a()) { b(); }", "a=o b=v"},
		{"for (a(), b()) { c(); }", "a=m b=m c=v"},
		{"for my $x (a()) { b(); }", "a=m b=v"},
		// An NIf that is a last statement hands its context on, and so does a block alone.
		{"if (a()) { b(); c(); } elsif (d()) { e(); } else { f(); }", "a=o b=v c=c d=o e=c f=c"},
		{"if (a()) { b(); } else { c(); } 1;", "a=o b=v c=v"},
		{"unless (a()) { b(); }", "a=o b=c"},
		{"b() if a();", "a=o b=c"},
		{"{ a(); b(); }", "a=v b=c"},
		{"{ a(); } b();", "a=v b=c"},
		{"A: { a(); { b(); } }", "a=v b=c"},
		{"$x = do { if (a()) { b(); { c(); } } };", "a=o b=v c=o"},
		{"map { { a(); } } (1); 1;", "a=m"},
		{"$x = do { while (a()) { b(); } }; $x = do { for (a()) { b(); } };", "a=o b=v a=m b=v"},
		{"while (1) { if (a()) { b(); } }", "a=o b=v"},
		// NReturn.
		{"return a(); 1;", "a=c"},
		{"sub f { return a(); 1; } while (1) { return b(); } 1;", "a=c b=c"},
		{"$x = do { return a(); 1; }; BEGIN { return b(); }", "a=c b=c"},
	} {
		if got := callContexts(t, parsed(t, c.source)); got != c.want {
			t.Errorf("%q: %s, want %s", c.source, got, c.want)
		}
	}
}

// P6.3: the contexts of lists and assignments, by the calls in them. What stands before `; 1;` is in Void.
func TestContextsOfLists(t *testing.T) {
	for _, c := range []struct{ source, want string }{
		{"(a(), b()); 1;", "a=v b=v"},
		{"$x = (a(), b()); 1;", "a=v b=o"},
		{"@x = (a(), b()); 1;", "a=m b=m"},
		{"(a(), b());", "a=c b=c"},
		{"return (a(), (b(), c()));", "a=c b=c c=c"},
		{"$x = ((a(), b()), (c(), d())); 1;", "a=v b=v c=v d=o"},
		// What is a list on the left side of an assignment.
		{"$x = a(); $x[b()] = c(); $x{d()} = e(); $$x = f(); 1;", "a=o b=o c=o d=o e=o f=o"},
		{"@x = a(); %x = b(); ($x) = c(); () = d(); 1;", "a=m b=m c=m d=m"},
		{"@x[a(), 1] = b(); @x{c(), 1} = d(); 1;", "a=m b=m c=m d=m"},
		{"@$x = a(); %$x = b(); @{c()} = d(); 1;", "a=m b=m c=o d=m"},
		{"my $x = a(); our $y = b(); local $z = c(); local $z[0] = d(); local $z{k} = e(); 1;", "a=o b=o c=o d=o e=o"},
		{"my ($x) = a(); our ($y) = b(); my @x = c(); our %x = d(); 1;", "a=m b=m c=m d=m"},
		{"local ($x, $y) = a(); local @x = b(); local %x = c(); local @x[1, 2] = d(); local @x{1, 2} = e(); 1;", "a=m b=m c=m d=m e=m"},
		// In lists on the left side, each is in One, whatever it is.
		{"($x[a()], @x[b(), c()], @{d()}) = e(); 1;", "a=o b=m c=m d=o e=m"},
		// The context of an assignment is that of its left side alone.
		{"$x = ($y) = a(); @x = $y = b(); 1;", "a=m b=o"},
		{"@x = (a(), $x = (b(), c())); 1;", "a=m b=v c=o"},
		// NUpdate: the right side in One.
		{"$x += a(); $x ||= (b(), c()); 1;", "a=o b=v c=o"},
		// NLogic and NCond: the first in One, the others in that of the whole.
		{"a() && b(); 1;", "a=o b=v"},
		{"$x = (a() || b()); @x = (c() // d()); 1;", "a=o b=o c=o d=m"},
		{"@x = (a() ? b() : c()); $x = (d() ? e() : f()); 1;", "a=o b=m c=m d=o e=o f=o"},
		{"a() ? b() : c();", "a=o b=c c=c"},
		{"a() and b() or c();", "a=o b=o c=c"},
	} {
		if got := callContexts(t, parsed(t, c.source)); got != c.want {
			t.Errorf("%q: %s, want %s", c.source, got, c.want)
		}
	}
}

// P6.3: the contexts of the parts of other expressions, by the calls in them.
func TestContextsOfParts(t *testing.T) {
	for _, c := range []struct{ source, want string }{
		{"[a(), (b(), c())]; 1;", "a=m b=m c=m"},
		{"({a(), (b(), c())}); 1;", "a=m b=m c=m"},
		{"a(b(), (c(), d())); 1;", "a=v b=m c=m d=m"},
		{"a()->(b(), c()); 1;", "a=o b=m c=m"},
		{"a()->go(b(), c()); 1;", "a=o b=m c=m"},
		{"$x[a()]; $x{b()}; @x[c(), d()]; @x{e(), f()}; 1;", "a=o b=o c=m d=m e=m f=m"},
		{"a()->[b()]; a()->{b()}; @{a()}[b()]; @{a()}{b()}; 1;", "a=o b=o a=o b=o a=o b=m a=o b=m"},
		{"${a()}; @{b()}; %{c()}; &{d()}(e()); 1;", "a=o b=o c=o d=o e=m"},
		// The functions of the language.
		{"print(a(), b()); reverse(c(), d()); die(e(), f()); 1;", "a=m b=m c=m d=m e=m f=m"},
		{"push(@{a()}, b(), c()); unshift(@{d()}, e(), f()); 1;", "a=o b=m c=m d=o e=m f=m"},
		{"join(a(), b(), c()); 1;", "a=o b=m c=m"},
		{"tie($x[a()], b(), c(), d()); 1;", "a=o b=o c=m d=m"},
		{"substr(a(), b(), c()); bless(d(), e()); split(a() =~ m/b/, f()); 1;", "a=o b=o c=o d=o e=o a=o f=o"},
		{"pop(@{a()}); keys(%{b()}); delete($x[c()]); defined(d()); scalar(e()); uc(f()); 1;", "a=o b=o c=o d=o e=o f=o"},
		// What has its parts in One.
		{"-a(); not b(); !c(); $x[d()]++; e() + (f(), g()); h() x i(); a() .. b(); 1;", "a=o b=o c=o d=o e=o f=v g=o h=o i=o a=o b=o"},
		{"a() =~ m/b/; ($x = a()) =~ s/b/$c[1]/; a() =~ tr/a/b/; 1;", "a=o a=o a=o"},
		{"@x = (-a(), !b(), c() . d(), e() =~ m/f/); 1;", "a=o b=o c=o d=o e=o"},
		// NRef: each in One.
		{"\\a(); \\(b(), c()); @x = \\(d(), e()); 1;", "a=o b=o c=o d=o e=o"},
		{"\\((a(), b()), c()); \\f((d(), e())); 1;", "a=o b=o c=o f=o d=m e=m"},
		{"local ($x[a()], ($x[b()], @x[c(), d()])) = e(); 1;", "a=o b=o c=m d=m e=m"},
	} {
		if got := callContexts(t, parsed(t, c.source)); got != c.want {
			t.Errorf("%q: %s, want %s", c.source, got, c.want)
		}
	}
}

// P6.3: the contexts of all nodes, by their numbers.
func TestContexts(t *testing.T) {
	for _, c := range []struct{ source, want string }{
		{"", ""},
		{"my ($a) = f();", "-ccom"},
		{"my $x = 1; $x;", "-vvoo-c"},
		// Lists on the left side stand in the context of the whole, what is in them in One.
		{"($x, @y, my ($z), ($a, %b)) = ();", "-cc" + "oo" + "oo" + "ooo" + "m"},
		{"@x = ($x, $y) = 1;", "-cc" + "mmoo" + "m"},
		{"local ($x, ($y, $z)); 1;", "-voo" + "ooo" + "-c"},
		{"\\my ($x, $y); 1;", "-vooo" + "-c"},
		{"$x += 1; $x++; 1;", "-vvo-vo-c"},
		{"for my $x (1, 2) { $x; }", "-mmm--v"},
		{"while ($x) { last; }", "-o--"},
		{"sub f { if (1) { 2; } } package A; { }", "---o--c--"},
		{"@x[1, $y]; @$x{1}; 1;", "-vommm" + "-voomm" + "-c"},
		{"tr/a/b/; \"a$x[0]\"; s/a/$x/; 1;", "-voo" + "-voooo" + "-vooo" + "-c"},
		{"return; return 1;", "--c"},
		{"map { 1; } (2); sub { 3; }; do { 4; }; 5;", "-v--mmm" + "-v--c" + "-v--v" + "-c"},
	} {
		p := parsed(t, c.source)
		got, e := Contexts(p)
		if e != api.OK || spelled(got) != c.want {
			t.Errorf("%q: %s, error %d, want %s", c.source, spelled(got), e, c.want)
		}
	}
}

// P6.3: Context is that which Contexts has for the node, and takes expressions only.
func TestContext(t *testing.T) {
	p := parsed(t, "my ($a) = f(); if ($a) { return 1; } for (1) { next; } sub g { } $x;")
	contexts, e := Contexts(p)
	all := paths(p)
	if e != api.OK || len(contexts) != len(all) {
		t.Fatalf("Contexts: %v, error %d", contexts, e)
	}
	for i, path := range all {
		c, e := Context(p, path)
		want := api.OK
		if contexts[i] < 0 {
			want = api.ErrType
		}
		if e != want || c != max(contexts[i], 0) {
			t.Errorf("Context at %v: %d, error %d, where Contexts has %d", path, c, e, contexts[i])
		}
	}
	for _, path := range [][]int{nil, {5}, {0, 0, 0, 0, 0}, {0, -1}} {
		if c, e := Context(p, path); c != 0 || e != api.ErrNone {
			t.Errorf("Context at %v: %d, error %d", path, c, e)
		}
	}
}
