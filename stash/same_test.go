package stash_test

import (
	"testing"

	"motley/stash"
)

// variants returns stashes of which no two are equal.
func variants(t *testing.T) []*stash.Stash {
	l := []*stash.Stash{nil}
	add := func(parents, subs, globs []string) {
		s := inherited(t, parents...)
		defines(t, s, subs...)
		aliases(t, s, globs...)
		l = append(l, s)
	}
	add(nil, nil, nil)
	add([]string{"a"}, nil, nil)
	add([]string{"b"}, nil, nil)
	add([]string{"a", "b"}, nil, nil)
	add([]string{"a b"}, nil, nil)
	add([]string{"a c"}, nil, nil)
	add([]string{"a b c"}, nil, nil)
	add([]string{"a c b"}, nil, nil)
	add([]string{"a b", "c"}, nil, nil)
	add([]string{"a", "c b"}, nil, nil)
	add(nil, []string{"a::x"}, nil)
	add(nil, []string{"b::x"}, nil)
	add(nil, []string{"a::y"}, nil)
	add(nil, []string{"a::x", "a::y"}, nil)
	add(nil, []string{"a::x", "b::x"}, nil)
	add([]string{"b"}, []string{"a::x"}, nil)
	add([]string{"a b"}, []string{"a::x"}, nil)
	add(nil, nil, []string{"a::x b::x"})
	add(nil, nil, []string{"a::x b::y"})
	add(nil, nil, []string{"a::x c::x"})
	add(nil, nil, []string{"a::y b::x"})
	add(nil, nil, []string{"b::x a::x"})
	add(nil, nil, []string{"a::x b::x", "a::y b::x"})
	add(nil, []string{"a::x"}, []string{"a::y a::x"})
	add(nil, []string{"a::y"}, []string{"a::x a::y"})
	return l
}

// P8.3: Same sees each difference of packages, parents, subs and globs, and a copy is equal.
func TestSame(t *testing.T) {
	l := variants(t)
	for i, a := range l {
		for j, b := range variants(t) {
			if stash.Same(a, b) != (i == j) {
				t.Errorf("Same of stashes %d and %d: %v", i, j, i != j)
			}
			if stash.Same(a.Copy(), b) != (i == j) {
				t.Errorf("Same of the copy of stash %d and of %d: %v", i, j, i != j)
			}
		}
		if !stash.Same(a, a) {
			t.Errorf("stash %d is not equal to itself", i)
		}
	}
}

// P8.3: how a stash came to be is no part of it.
func TestSameAnotherWay(t *testing.T) {
	a := inherited(t, "p q", "r")
	defines(t, a, "p::x", "p::y")
	aliases(t, a, "r::g p::x")
	b := stash.New()
	aliases(t, b, "p::x q::q", "r::g p::x")
	inherits(t, b, "p r q")
	must(t, b.Remove("p", "x"))
	defines(t, b, "r::h", "p::y", "p::x")
	must(t, b.Remove("r", "h"))
	if stash.Same(a, b) {
		t.Error("equal with other parents")
	}
	inherits(t, b, "p q")
	if !stash.Same(a, b) {
		t.Error("not equal")
	}
	must(t, a.Parents("r", []string{}))
	if !stash.Same(a, b) {
		t.Error("not equal with empty parents")
	}
}

// changes are ways to change a stash with the packages p and q and the names p::x and p::g.
func changes(t *testing.T) []func(s *stash.Stash) {
	return []func(s *stash.Stash){
		func(s *stash.Stash) { inherits(t, s, "p") },
		func(s *stash.Stash) { inherits(t, s, "p r q") },
		func(s *stash.Stash) { inherits(t, s, "new") },
		func(s *stash.Stash) { defines(t, s, "p::y") },
		func(s *stash.Stash) { defines(t, s, "new::y") },
		func(s *stash.Stash) { aliases(t, s, "q::y p::x") },
		func(s *stash.Stash) { must(t, s.Remove("p", "x")) },
		func(s *stash.Stash) { must(t, s.Remove("p", "g")) },
	}
}

// P8.3, R5: a copy is a stash of its own.
func TestCopyIsNew(t *testing.T) {
	for i, change := range changes(t) {
		s := inherited(t, "p q r", "q")
		defines(t, s, "p::x")
		aliases(t, s, "p::g q::g")
		before, c := s.Copy(), s.Copy()
		change(c)
		if !stash.Same(s, before) || stash.Same(c, before) {
			t.Errorf("the change %d of the copy: the stash %v, the copy %v", i, stash.Same(s, before), stash.Same(c, before))
		}
		c = s.Copy()
		change(s)
		if stash.Same(s, before) || !stash.Same(c, before) {
			t.Errorf("the change %d of the stash: the stash %v, the copy %v", i, stash.Same(s, before), stash.Same(c, before))
		}
		change(c)
		if !stash.Same(s, c) {
			t.Errorf("the change %d of both: not equal", i)
		}
	}
}
