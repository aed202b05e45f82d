package stash_test

import (
	"testing"

	"motley/api"
	"motley/stash"
)

// diamond returns D, whose parents B and C both have A.
func diamond(t *testing.T) *stash.Stash {
	return inherited(t, "D B C", "B A", "C A", "A")
}

// P8.3: Real follows globs to the sub that a name stands for.
func TestReal(t *testing.T) {
	s := stash.New()
	defines(t, s, "a::x", "b::x")
	aliases(t, s, "a::g1 a::x", "b::g2 a::g1", "c::g3 b::g2", "c::lost d::x", "c::far c::lost", "c::b b::x", "c::name a::none")
	for full, want := range map[string]string{
		"a::x": "a::x", "b::x": "b::x", "a::g1": "a::x", "b::g2": "a::x", "c::g3": "a::x", "c::b": "b::x",
		"c::lost": "", "c::far": "", "c::name": "", "a::none": "", "d::x": "", "b::g1": "", "none::x": "", "a::X": "",
	} {
		wantReal(t, s, full, want)
	}
	defines(t, s, "d::x")
	wantReal(t, s, "c::lost", "d::x")
	wantReal(t, s, "c::far", "d::x")
	must(t, s.Remove("a", "x"))
	wantReal(t, s, "c::g3", "")
}

// P8.3: Real does not go to parents.
func TestRealWithoutParents(t *testing.T) {
	s := diamond(t)
	defines(t, s, "A::x", "A::AUTOLOAD")
	wantReal(t, s, "D::x", "")
	aliases(t, s, "e::x D::x")
	wantReal(t, s, "e::x", "")
}

// P8.3: Method is the first one in the order by depth, or in the merged one.
func TestMethod(t *testing.T) {
	s := diamond(t)
	defines(t, s, "A::m", "C::m", "B::b", "A::b", "C::c", "A::a", "D::d", "A::d", "E::e")
	wantMethod(t, s, "D::m", "A::m", "C::m")
	wantMethod(t, s, "C::m", "C::m", "C::m")
	wantMethod(t, s, "B::m", "A::m", "A::m")
	wantMethod(t, s, "D::b", "B::b", "B::b")
	wantMethod(t, s, "D::c", "C::c", "C::c")
	wantMethod(t, s, "D::a", "A::a", "A::a")
	wantMethod(t, s, "D::d", "D::d", "D::d")
	wantMethod(t, s, "A::d", "A::d", "A::d")
	wantMethod(t, s, "D::e", "", "")
	wantMethod(t, s, "D::M", "", "")
	wantMethod(t, s, "A::c", "", "")
	wantMethod(t, s, "none::m", "", "")
}

// P8.3: a name that leads to a sub elsewhere is that one, of which the parents do not matter.
func TestMethodByGlobs(t *testing.T) {
	s := diamond(t)
	defines(t, s, "A::m", "x::y", "C::p")
	aliases(t, s, "B::m x::y", "C::n B::m", "D::p x::none", "B::p D::p")
	wantMethod(t, s, "D::m", "x::y", "x::y")
	wantMethod(t, s, "D::n", "x::y", "x::y")
	wantMethod(t, s, "C::m", "A::m", "A::m")
	// A glob that leads to no sub is passed.
	wantMethod(t, s, "D::p", "C::p", "C::p")
	wantMethod(t, s, "B::p", "", "")
	defines(t, s, "x::none")
	wantMethod(t, s, "D::p", "x::none", "x::none")
}

// P8.3: AUTOLOAD is taken where the name is in no package of the order, and is searched likewise.
func TestMethodAutoload(t *testing.T) {
	s := diamond(t)
	defines(t, s, "A::AUTOLOAD", "C::AUTOLOAD", "A::m")
	wantMethod(t, s, "D::m", "A::m", "A::m")
	wantMethod(t, s, "D::none", "A::AUTOLOAD", "C::AUTOLOAD")
	wantMethod(t, s, "D::AUTOLOAD", "A::AUTOLOAD", "C::AUTOLOAD")
	wantMethod(t, s, "C::none", "C::AUTOLOAD", "C::AUTOLOAD")
	wantMethod(t, s, "other::none", "", "")
	aliases(t, s, "D::AUTOLOAD x::y")
	wantMethod(t, s, "D::none", "A::AUTOLOAD", "C::AUTOLOAD")
	defines(t, s, "x::y", "D::n")
	wantMethod(t, s, "D::none", "x::y", "x::y")
	wantMethod(t, s, "D::n", "D::n", "D::n")
	aliases(t, s, "D::g D::nowhere")
	wantMethod(t, s, "D::g", "x::y", "x::y")
}

// P8.3: After is the first one behind a package in the order.
func TestAfter(t *testing.T) {
	s := diamond(t)
	defines(t, s, "A::m", "C::m", "B::m", "D::m", "D::d", "B::b", "x::y")
	wantAfter(t, s, "D::m", "D", "B::m", "B::m")
	wantAfter(t, s, "D::m", "B", "A::m", "C::m")
	wantAfter(t, s, "D::m", "C", "", "A::m")
	wantAfter(t, s, "D::m", "A", "C::m", "")
	wantAfter(t, s, "C::m", "C", "A::m", "A::m")
	wantAfter(t, s, "D::d", "D", "", "")
	wantAfter(t, s, "D::b", "D", "B::b", "B::b")
	wantAfter(t, s, "D::b", "B", "", "")
	wantAfter(t, s, "none::m", "none", "", "")
	aliases(t, s, "C::g x::none", "A::g x::y", "C::h A::g")
	wantAfter(t, s, "D::g", "B", "x::y", "x::y")
	wantAfter(t, s, "D::h", "D", "x::y", "x::y")
}

// P8.3: After does not take AUTOLOAD for another name.
func TestAfterWithoutAutoload(t *testing.T) {
	s := diamond(t)
	defines(t, s, "A::AUTOLOAD", "C::AUTOLOAD", "D::m")
	wantAfter(t, s, "D::m", "D", "", "")
	wantAfter(t, s, "D::none", "B", "", "")
	wantAfter(t, s, "D::AUTOLOAD", "B", "A::AUTOLOAD", "C::AUTOLOAD")
}

// P8.3: the package behind which After searches must be in the order.
func TestAfterErrors(t *testing.T) {
	s := diamond(t)
	inherits(t, s, "E A")
	defines(t, s, "A::m", "E::m", "x::m")
	for _, x := range []struct{ pack, in string }{{"D", "E"}, {"D", "x"}, {"D", "none"}, {"B", "D"}, {"A", "B"}, {"none", "A"}, {"D", "d"}} {
		for _, merged := range []bool{false, true} {
			if pack, name, ok, e := s.After(x.pack, x.in, "m", merged); pack != "" || name != "" || ok || e != api.ErrNone {
				t.Errorf("After %v %v: %q %q %v, error %d", x, merged, pack, name, ok, e)
			}
		}
	}
}

// P8.3: where there is no merged order, nothing is searched in it; the order by depth does not need it.
func TestWithoutMergedOrder(t *testing.T) {
	s := inherited(t, "X A B", "Y B A", "Z X Y", "L L")
	defines(t, s, "A::m", "Z::m", "L::m", "B::AUTOLOAD")
	for _, pack := range []string{"Z", "L"} {
		p, n, ok, e := s.Method(pack, "m", true)
		if p != "" || n != "" || ok || e != api.ErrRule {
			t.Errorf("Method %s: %q %q %v, error %d", pack, p, n, ok, e)
		}
		for _, in := range []string{pack, "A", "none"} {
			p, n, ok, e = s.After(pack, in, "m", true)
			if p != "" || n != "" || ok || e != api.ErrRule {
				t.Errorf("After %s behind %s: %q %q %v, error %d", pack, in, p, n, ok, e)
			}
		}
		p, n, ok, e = s.Method(pack, "m", false)
		if p != pack || n != "m" || !ok || e != api.OK {
			t.Errorf("Method %s by depth: %q %q %v, error %d", pack, p, n, ok, e)
		}
	}
	if p, n, ok, e := s.After("Z", "Z", "m", false); p != "A" || n != "m" || !ok || e != api.OK {
		t.Errorf("After Z by depth: %q %q %v, error %d", p, n, ok, e)
	}
	wantMethod(t, s, "X::m", "A::m", "A::m")
}
