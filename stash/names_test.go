package stash_test

import (
	"strings"
	"testing"

	"motley/api"
	"motley/stash"
)

// goodNames are names; goodPacks are names of packages besides.
var (
	goodNames = []string{"a", "Z", "_", "__", "_1", "a1", "aZ09_z", "AUTOLOAD", "if", "abcdefghijkl"}
	goodPacks = []string{
		"a::b", "_::_", "a::b::c::d", "main::x", "abcdefghijkl::b123456789", "a::b::c::d::e::f::g::hij",
		"abcdefghij::bcdefghijklm",
	}
	badPacks = []string{
		"", "1", "1a", "é", "aé", "a b", " a", "a ", "a\n", "a-b", "a'b", "a.b", "a[", "a@", "a`", "a{", "a/", "a:", "a\x00", "\xff",
		":", "::", "::a", "a::", "a:b", "a:::b", "a::::b", "a::1", "a::é", "$a", "@", "a::b ", "a::b\xff",
		"abcdefghijklm", "a::abcdefghijklm", "abcdefghijklm::a", "abcdefghijkl::b1234567890", "a::b::c::d::e::f::g::hijk",
	}
)

// refusals calls each method with a package or a name in each place where one stands; it returns their errors,
// and whether something else is not zero.
func refusals(s *stash.Stash, pack string, isPack bool) map[string]api.Errno {
	all := map[string]api.Errno{}
	put := func(what string, zero bool, e api.Errno) {
		all[what] = e
		if !zero {
			all[what+", a result that is not zero"] = -1
		}
	}
	if isPack {
		put("Parents", true, s.Parents(pack, nil))
		put("Parents last", true, s.Parents("p", []string{"p", "q", pack}))
		put("Parents twice", true, s.Parents("p", []string{"q", "q", "a", "b", "c", "d", "e", "f", "g", pack}))
		put("Define", true, s.Define(pack, "x"))
		put("Remove", true, s.Remove(pack, "x"))
		put("Alias", true, s.Alias(pack, "x", "q", "y"))
		put("Alias from", true, s.Alias("p", "f", pack, "y"))
		l, e := s.Names(pack)
		put("Names", len(l) == 0, e)
		l, e = s.Depth(pack)
		put("Depth", len(l) == 0, e)
		l, ok, e := s.Merged(pack)
		put("Merged", len(l) == 0 && !ok, e)
		ok, e = s.IsA(pack, "p")
		put("IsA", !ok, e)
		ok, e = s.IsA("p", pack)
		put("IsA other", !ok, e)
		a, b, ok, e := s.After("p", pack, "f", false)
		put("After in", a == "" && b == "" && !ok, e)
		for _, merged := range []bool{false, true} {
			a, b, ok, e = s.Method(pack, "f", merged)
			put("Method", a == "" && b == "" && !ok, e)
			a, b, ok, e = s.After(pack, "nowhere", "f", merged)
			put("After", a == "" && b == "" && !ok, e)
		}
		a, b, ok, e = s.Real(pack, "f")
		put("Real", a == "" && b == "" && !ok, e)
		return all
	}
	put("Define name", true, s.Define("p", pack))
	put("Remove name", true, s.Remove("p", pack))
	put("Alias name", true, s.Alias("p", pack, "q", "y"))
	put("Alias other", true, s.Alias("p", "f", "q", pack))
	a, b, ok, e := s.Real("p", pack)
	put("Real name", a == "" && b == "" && !ok, e)
	for _, merged := range []bool{false, true} {
		a, b, ok, e = s.Method("p", pack, merged)
		put("Method name", a == "" && b == "" && !ok, e)
		a, b, ok, e = s.After("p", "nowhere", pack, merged)
		put("After name", a == "" && b == "" && !ok, e)
	}
	return all
}

// named returns a stash with a sub, and a package without a merged order.
func named(t *testing.T) *stash.Stash {
	s := inherited(t, "p p")
	defines(t, s, "p::f")
	return s
}

// P8: all functions refuse what is no name of a package, or no name, before anything else, and change nothing.
func TestWrongNames(t *testing.T) {
	s := named(t)
	for _, pack := range badPacks {
		for what, e := range refusals(s, pack, true) {
			if e != api.ErrArg {
				t.Errorf("%s with the package %q: error %d", what, pack, e)
			}
		}
	}
	for _, name := range append(badPacks, goodPacks...) {
		for what, e := range refusals(s, name, false) {
			if e != api.ErrArg {
				t.Errorf("%s with the name %q: error %d", what, name, e)
			}
		}
	}
	wantSame(t, s, named(t))
}

// P8: in a full stash, too, what is no name comes first.
func TestWrongNamesOfFull(t *testing.T) {
	s := full(t)
	before := s.Copy()
	for what, e := range map[string]api.Errno{
		"Parents": s.Parents("new", []string{"1"}),
		"Define":  s.Define("new", "a::b"),
		"Alias":   s.Alias("new", "x", "", "y"),
		"other":   s.Alias("new", "x", "a", "y::z"),
	} {
		if e != api.ErrArg {
			t.Errorf("%s: error %d", what, e)
		}
	}
	wantSame(t, s, before)
}

// P8: all names of packages, and all names, are taken.
func TestRightNames(t *testing.T) {
	for _, pack := range append(goodPacks, goodNames...) {
		for what, e := range refusals(named(t), pack, true) {
			if e == api.ErrArg || e == api.ErrState {
				t.Errorf("%s with the package %q: error %d", what, pack, e)
			}
		}
		s := inherited(t, pack+" "+pack)
		defines(t, s, pack+"::x")
		wantPackages(t, s, pack)
	}
	for _, name := range goodNames {
		for what, e := range refusals(named(t), name, false) {
			if e == api.ErrArg || e == api.ErrState {
				t.Errorf("%s with the name %q: error %d", what, name, e)
			}
		}
		s := stash.New()
		defines(t, s, "a::b::"+name)
		wantNames(t, s, "a::b", name)
	}
}

// P8: the methods of a nil stash return ErrState, whatever their arguments are, or zero values.
func TestNil(t *testing.T) {
	var s *stash.Stash
	for _, text := range []string{"a", "", "1", "a::b"} {
		for _, isPack := range []bool{false, true} {
			for what, e := range refusals(s, text, isPack) {
				if e != api.ErrState {
					t.Errorf("%s with %q: error %d", what, text, e)
				}
			}
		}
	}
	if l := s.Packages(); len(l) > 0 {
		t.Errorf("Packages: %q", l)
	}
	if s.Copy() != nil {
		t.Error("a copy of nil is not nil")
	}
}

// P8.3: Split cuts at the last `::`; without one the package is main.
func TestSplit(t *testing.T) {
	for _, x := range []struct{ full, pack, name string }{
		{"x", "main", "x"},
		{"main", "main", "main"},
		{"_", "main", "_"},
		{"abcdefghijkl", "main", "abcdefghijkl"},
		{"a::b", "a", "b"},
		{"main::x", "main", "x"},
		{"a::b::c", "a::b", "c"},
		{"a::b::c::d", "a::b::c", "d"},
		{"_1::_2", "_1", "_2"},
		{"abcdefghijkl::b123456789::abcdefghijkl", "abcdefghijkl::b123456789", "abcdefghijkl"},
		{"a::b::c::d::e::f::g::hij::k", "a::b::c::d::e::f::g::hij", "k"},
	} {
		if pack, name, e := stash.Split(x.full); pack != x.pack || name != x.name || e != api.OK {
			t.Errorf("Split %q: %q %q, error %d", x.full, pack, name, e)
		}
	}
}

// P8.3: Split refuses what is no package and a name.
func TestSplitErrors(t *testing.T) {
	for _, full := range []string{
		"", ":", "::", "::a", "a::", "a::b::", "::a::b", "a:b", "a:::b", "a::::b", "a:", ":a", "1", "1::a", "a::1", "a::1::b", "é", "a::é", "é::a",
		"a b", "a:: b", "a ::b", "a::b\n", "\xff", "abcdefghijklm", "a::abcdefghijklm", "abcdefghijklm::a",
		"abcdefghijkl::b1234567890::x", "a::b::c::d::e::f::g::hijk::k", strings.Repeat("a::", 1000) + "a", strings.Repeat(":", 100),
	} {
		if pack, name, e := stash.Split(full); pack != "" || name != "" || e != api.ErrArg {
			t.Errorf("Split %q: %q %q, error %d", full, pack, name, e)
		}
	}
}
