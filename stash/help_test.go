package stash_test

import (
	"slices"
	"strings"
	"testing"

	"motley/api"
	"motley/stash"
)

// must stops a test at an error.
func must(t *testing.T, e api.Errno) {
	t.Helper()
	if e != api.OK {
		t.Fatalf("error %d", e)
	}
}

// inherits gives packages their parents, each in a line of the package and its parents.
func inherits(t *testing.T, s *stash.Stash, lines ...string) {
	t.Helper()
	for _, line := range lines {
		l := strings.Fields(line)
		must(t, s.Parents(l[0], l[1:]))
	}
}

// defines puts subs into packages, by their whole names.
func defines(t *testing.T, s *stash.Stash, l ...string) {
	t.Helper()
	for _, full := range l {
		pack, name, e := stash.Split(full)
		must(t, e)
		must(t, s.Define(pack, name))
	}
}

// aliases makes names stand for others, each in a line of both whole names.
func aliases(t *testing.T, s *stash.Stash, lines ...string) {
	t.Helper()
	for _, line := range lines {
		l := strings.Fields(line)
		pack, name, e := stash.Split(l[0])
		must(t, e)
		from, other, e := stash.Split(l[1])
		must(t, e)
		must(t, s.Alias(pack, name, from, other))
	}
}

// inherited returns a stash with the packages of lines.
func inherited(t *testing.T, lines ...string) *stash.Stash {
	t.Helper()
	s := stash.New()
	inherits(t, s, lines...)
	return s
}

// wantPackages checks which packages are there.
func wantPackages(t *testing.T, s *stash.Stash, want string) {
	t.Helper()
	if got := s.Packages(); !slices.Equal(got, strings.Fields(want)) {
		t.Errorf("Packages: %q; want %q", got, want)
	}
}

// wantNames checks which names a package has.
func wantNames(t *testing.T, s *stash.Stash, pack, want string) {
	t.Helper()
	if got, e := s.Names(pack); !slices.Equal(got, strings.Fields(want)) || e != api.OK {
		t.Errorf("Names %s: %q, error %d; want %q", pack, got, e, want)
	}
}

// wantDepth checks an order by depth.
func wantDepth(t *testing.T, s *stash.Stash, pack, want string) {
	t.Helper()
	if got, e := s.Depth(pack); strings.Join(got, " ") != want || e != api.OK {
		t.Errorf("Depth %s: %q, error %d; want %q", pack, got, e, want)
	}
}

// wantMerged checks a merged order; an empty one: there is none.
func wantMerged(t *testing.T, s *stash.Stash, pack, want string) {
	t.Helper()
	got, ok, e := s.Merged(pack)
	if strings.Join(got, " ") != want || ok != (want != "") || e != api.OK {
		t.Errorf("Merged %s: %q %v, error %d; want %q", pack, got, ok, e, want)
	}
}

// whole returns the whole name of a sub, an empty one if there is none, and checks that it is zero then.
func whole(t *testing.T, pack, name string, ok bool) string {
	t.Helper()
	if ok {
		return pack + "::" + name
	}
	if pack != "" || name != "" {
		t.Errorf("%q and %q with false", pack, name)
	}
	return ""
}

// wantReal checks what a name stands for, by whole names; an empty one: it leads to no sub.
func wantReal(t *testing.T, s *stash.Stash, full, want string) {
	t.Helper()
	pack, name, e := stash.Split(full)
	must(t, e)
	p, n, ok, e := s.Real(pack, name)
	if got := whole(t, p, n, ok); got != want || e != api.OK {
		t.Errorf("Real %s: %q, error %d; want %q", full, got, e, want)
	}
}

// wantMethod checks the method of a whole name, in both orders.
func wantMethod(t *testing.T, s *stash.Stash, full, depth, merged string) {
	t.Helper()
	pack, name, e := stash.Split(full)
	must(t, e)
	for isMerged, want := range map[bool]string{false: depth, true: merged} {
		p, n, ok, e := s.Method(pack, name, isMerged)
		if got := whole(t, p, n, ok); got != want || e != api.OK {
			t.Errorf("Method %s %v: %q, error %d; want %q", full, isMerged, got, e, want)
		}
	}
}

// wantAfter checks the method of a whole name behind a package, in both orders.
func wantAfter(t *testing.T, s *stash.Stash, full, in, depth, merged string) {
	t.Helper()
	pack, name, e := stash.Split(full)
	must(t, e)
	for isMerged, want := range map[bool]string{false: depth, true: merged} {
		p, n, ok, e := s.After(pack, in, name, isMerged)
		if got := whole(t, p, n, ok); got != want || e != api.OK {
			t.Errorf("After %s behind %s %v: %q, error %d; want %q", full, in, isMerged, got, e, want)
		}
	}
}

// wantSame checks that a stash is as it was.
func wantSame(t *testing.T, s, before *stash.Stash) {
	t.Helper()
	if !stash.Same(s, before) {
		t.Error("the stash has changed")
	}
}
