package stash_test

import (
	"strconv"
	"strings"
	"testing"

	"motley/api"
	"motley/stash"
)

// full returns a stash with as many packages as there may be: p0 to p19, with the sub x and the glob y.
func full(t *testing.T) *stash.Stash {
	s := stash.New()
	for i := range api.MaxPacks {
		pack := "p" + strconv.Itoa(i)
		defines(t, s, pack+"::x")
		aliases(t, s, pack+"::y q::z")
	}
	return s
}

// P8.1: Parents makes a package and gives it parents, which need not be there, in place of those before.
func TestParents(t *testing.T) {
	s := stash.New()
	wantPackages(t, s, "")
	inherits(t, s, "b c a")
	wantPackages(t, s, "b")
	wantDepth(t, s, "b", "b c a")
	wantNames(t, s, "b", "")
	inherits(t, s, "b a d e")
	wantDepth(t, s, "b", "b a d e")
	inherits(t, s, "b")
	wantDepth(t, s, "b", "b")
	wantPackages(t, s, "b")
	inherits(t, s, "b b")
	wantDepth(t, s, "b", "b")
	inherits(t, s, "a q1 q2 q3 q4 q5 q6 q7 q8")
	wantDepth(t, s, "a", "a q1 q2 q3 q4 q5 q6 q7 q8")
	wantPackages(t, s, "a b")
}

// P8.1: Parents leaves the names of a package.
func TestParentsKeepsNames(t *testing.T) {
	s := stash.New()
	defines(t, s, "a::x")
	aliases(t, s, "a::y b::z")
	inherits(t, s, "a b")
	wantNames(t, s, "a", "x y")
}

// P8.1: the errors of Parents: too many parents or packages, then one twice.
func TestParentsErrors(t *testing.T) {
	s := inherited(t, "a b")
	before := s.Copy()
	for _, x := range []struct {
		l    string
		want api.Errno
	}{
		{"q1 q2 q3 q4 q5 q6 q7 q8 q9", api.ErrLarge},
		{"q1 q2 q3 q4 q5 q6 q7 q8 q8", api.ErrLarge},
		{"q1 q1", api.ErrTwice},
		{"a b a", api.ErrTwice},
		{"q1 q2 q3 q4 q5 q6 q7 q7", api.ErrTwice},
		{"q1 q2 q1 4", api.ErrArg},
		{"q1 q2 q3 q4 q5 q6 q7 q8 q9 é", api.ErrArg},
	} {
		for _, pack := range []string{"a", "new"} {
			if e := s.Parents(pack, strings.Fields(x.l)); e != x.want {
				t.Errorf("Parents %s %s: error %d", pack, x.l, e)
			}
		}
	}
	wantSame(t, s, before)
}

// P8.1: a package beyond MaxPacks is refused by all that would make it; those that are there are still changed.
func TestFull(t *testing.T) {
	s := full(t)
	before := s.Copy()
	for what, e := range map[string]api.Errno{
		"Parents":          s.Parents("new", nil),
		"Parents of two":   s.Parents("new", []string{"a", "a"}),
		"Define":           s.Define("new", "x"),
		"Alias":            s.Alias("new", "x", "p0", "x"),
		"Alias for itself": s.Alias("new", "x", "new", "x"),
	} {
		if e != api.ErrLarge {
			t.Errorf("%s: error %d", what, e)
		}
	}
	wantSame(t, s, before)
	inherits(t, s, "p0 new1 new2", "p19 p0")
	defines(t, s, "p7::n")
	aliases(t, s, "p8::n new::n")
	wantNames(t, s, "p7", "n x y")
	wantNames(t, s, "p8", "n x y")
	wantDepth(t, s, "p19", "p19 p0 new1 new2")
	if n := len(s.Packages()); n != api.MaxPacks {
		t.Errorf("%d packages", n)
	}
}

// P8.1: a package without names and parents is there, too, so it counts.
func TestFullOfEmpty(t *testing.T) {
	s := stash.New()
	for i := range api.MaxPacks {
		inherits(t, s, "p"+strconv.Itoa(i)+" q"+strconv.Itoa(i))
	}
	if e := s.Parents("q0", nil); e != api.ErrLarge {
		t.Errorf("error %d", e)
	}
	defines(t, s, "p3::x")
	must(t, s.Remove("p3", "x"))
	inherits(t, s, "p3")
	if e := s.Define("q3", "x"); e != api.ErrLarge {
		t.Errorf("error %d", e)
	}
}

// P8.1: Define puts a name into a package, which it makes; Names and Packages are sets.
func TestDefine(t *testing.T) {
	s := stash.New()
	defines(t, s, "b::x", "b::a", "b::X", "b::_", "B::x", "b::c::x", "b::ab")
	wantPackages(t, s, "B b b::c")
	wantNames(t, s, "b", "X _ a ab x")
	wantNames(t, s, "B", "x")
	wantNames(t, s, "b::c", "x")
	wantDepth(t, s, "b", "b")
	if l, e := s.Names("c"); len(l) > 0 || e != api.ErrNone {
		t.Errorf("Names of no package: %q, error %d", l, e)
	}
}

// P8.1: Define and Alias refuse a name that is there, as a sub or a glob, and nothing else.
func TestTwice(t *testing.T) {
	s := inherited(t, "c a")
	defines(t, s, "a::x", "b::y")
	aliases(t, s, "a::g b::y", "a::none b::none")
	before := s.Copy()
	for _, name := range []string{"x", "g", "none"} {
		if e := s.Define("a", name); e != api.ErrTwice {
			t.Errorf("Define %s: error %d", name, e)
		}
		for _, to := range []string{"b::y", "a::x", "a::g", "c::c"} {
			from, other, _ := stash.Split(to)
			if e := s.Alias("a", name, from, other); e != api.ErrTwice {
				t.Errorf("Alias %s for %s: error %d", name, to, e)
			}
		}
	}
	if e := s.Alias("a", "none", "a", "none"); e != api.ErrTwice {
		t.Errorf("Alias of a glob for itself: error %d", e)
	}
	wantSame(t, s, before)
	defines(t, s, "b::x", "b::g", "b::none", "c::x")
	aliases(t, s, "a::y b::y", "c::g b::x")
}

// P8.1: Remove takes away a sub or a glob, alone; its package stays.
func TestRemove(t *testing.T) {
	s := inherited(t, "a b")
	defines(t, s, "a::x", "a::y", "b::x")
	aliases(t, s, "a::g b::x", "b::g a::x")
	for _, x := range []struct{ pack, name string }{{"a", "z"}, {"a", "X"}, {"b", "y"}, {"c", "x"}} {
		if e := s.Remove(x.pack, x.name); e != api.ErrNone {
			t.Errorf("Remove %v: error %d", x, e)
		}
	}
	wantNames(t, s, "a", "g x y")
	must(t, s.Remove("a", "x"))
	wantNames(t, s, "a", "g y")
	wantNames(t, s, "b", "g x")
	must(t, s.Remove("a", "g"))
	wantNames(t, s, "a", "y")
	wantReal(t, s, "b::x", "b::x")
	must(t, s.Remove("a", "y"))
	wantNames(t, s, "a", "")
	for _, name := range []string{"x", "y", "g"} {
		if e := s.Remove("a", name); e != api.ErrNone {
			t.Errorf("Remove %s again: error %d", name, e)
		}
	}
	wantPackages(t, s, "a b")
	wantDepth(t, s, "a", "a b")
}

// P8.1: what was taken away can be put in again, a sub in place of a glob, too.
func TestRemoveAndAgain(t *testing.T) {
	s := stash.New()
	defines(t, s, "a::x", "b::x")
	aliases(t, s, "a::g a::x")
	must(t, s.Remove("a", "x"))
	wantReal(t, s, "a::g", "")
	aliases(t, s, "a::x b::x")
	wantReal(t, s, "a::g", "b::x")
	must(t, s.Remove("a", "g"))
	defines(t, s, "a::g")
	wantReal(t, s, "a::g", "a::g")
}

// P8.1: Alias makes its package, not the one from which the name is.
func TestAlias(t *testing.T) {
	s := stash.New()
	aliases(t, s, "a::x b::y", "a::z a::y")
	wantPackages(t, s, "a")
	wantNames(t, s, "a", "x z")
	if l, e := s.Names("b"); len(l) > 0 || e != api.ErrNone {
		t.Errorf("Names b: %q, error %d", l, e)
	}
}

// P8.1: Alias refuses what leads back to the name itself, whether it is near or far.
func TestAliasAround(t *testing.T) {
	s := stash.New()
	if e := s.Alias("a", "x", "a", "x"); e != api.ErrRule {
		t.Errorf("for itself: error %d", e)
	}
	wantPackages(t, s, "")
	aliases(t, s, "a::x b::x", "b::x c::x", "c::x c::y", "c::y c::z", "o::x a::x")
	before := s.Copy()
	for _, to := range []string{"a::x", "b::x", "c::x", "c::y", "c::z", "o::x"} {
		from, other, _ := stash.Split(to)
		if e := s.Alias("c", "z", from, other); e != api.ErrRule {
			t.Errorf("for %s: error %d", to, e)
		}
	}
	wantSame(t, s, before)
	aliases(t, s, "c::z d::x", "n::x a::x")
	wantReal(t, s, "n::x", "")
	defines(t, s, "d::x")
	wantReal(t, s, "n::x", "d::x")
}

// P8.1: when a glob is taken away, what it closed is open again.
func TestAliasAroundAgain(t *testing.T) {
	s := stash.New()
	aliases(t, s, "a::x b::x", "b::x c::x")
	if e := s.Alias("c", "x", "a", "x"); e != api.ErrRule {
		t.Errorf("error %d", e)
	}
	must(t, s.Remove("b", "x"))
	aliases(t, s, "c::x a::x")
	if e := s.Alias("b", "x", "c", "x"); e != api.ErrRule {
		t.Errorf("error %d", e)
	}
	defines(t, s, "b::x")
	wantReal(t, s, "c::x", "b::x")
}

// R5: a stash keeps no memory of its arguments, and gives out none of its own.
func TestMemory(t *testing.T) {
	l := []string{"b", "c", "more"}
	s := stash.New()
	must(t, s.Parents("a", l[:2]))
	inherits(t, s, "d a")
	defines(t, s, "a::x", "a::y")
	before := s.Copy()
	l[0] = "d"
	for _, r := range [][]string{first(s.Depth("a")), first(s.Names("a")), s.Packages(), firstOfThree(s.Merged("a")), firstOfThree(s.Merged("d"))} {
		for i := range r {
			r[i] = "broken"
		}
		_ = append(r, "broken")
	}
	wantSame(t, s, before)
	wantDepth(t, s, "a", "a b c")
	wantMerged(t, s, "d", "d a b c")
	if l[2] != "more" {
		t.Error("Parents has changed its argument")
	}
}

func first(l []string, _ api.Errno) []string { return l }

func firstOfThree(l []string, _ bool, _ api.Errno) []string { return l }

// P1: a stash that is not made by New is one without packages.
func TestZero(t *testing.T) {
	for what, do := range map[string]func(s *stash.Stash) api.Errno{
		"Parents": func(s *stash.Stash) api.Errno { return s.Parents("a", []string{"b"}) },
		"Define":  func(s *stash.Stash) api.Errno { return s.Define("a", "x") },
		"Alias":   func(s *stash.Stash) api.Errno { return s.Alias("a", "x", "b", "x") },
	} {
		s, n := &stash.Stash{}, stash.New()
		if !stash.Same(s, n) || !stash.Same(s.Copy(), n) || len(s.Packages()) > 0 {
			t.Error("the zero value is not as New")
		}
		if e := s.Remove("a", "x"); e != api.ErrNone {
			t.Errorf("Remove: error %d", e)
		}
		wantDepth(t, s, "a", "a")
		wantMerged(t, s, "a", "a")
		wantMethod(t, s, "a::x", "", "")
		must(t, do(s))
		must(t, do(n))
		if !stash.Same(s, n) {
			t.Errorf("%s of the zero value: not as of New", what)
		}
		wantPackages(t, s, "a")
	}
}
