package stash_test

import (
	"math/rand"
	"slices"
	"strings"
	"testing"

	"motley/api"
	"motley/stash"
)

// entry is a name in a package of the model: that of a sub, or a glob.
type entry struct {
	pack, name  string
	glob        bool
	from, other string
}

// model is a stash as the chapter describes it: it keeps lists, and finds orders by going all ways.
type model struct {
	packs   []string
	parents map[string][]string
	entries []entry
}

// The packages and names of random tests; of the packages the last one is never made.
var (
	somePacks = []string{"A", "B", "C", "D", "E::F", "main", "none"}
	someNames = []string{"m", "n", "o", "AUTOLOAD"}
)

func (m *model) make(pack string) {
	if !slices.Contains(m.packs, pack) {
		m.packs = append(m.packs, pack)
	}
}

// find returns the entry of a name.
func (m *model) find(pack, name string) (entry, bool) {
	for _, x := range m.entries {
		if x.pack == pack && x.name == name {
			return x, true
		}
	}
	return entry{}, false
}

// real returns the whole name of the sub that a name stands for, or an empty text.
func (m *model) real(pack, name string) string {
	x, ok := m.find(pack, name)
	switch {
	case !ok:
		return ""
	case x.glob:
		return m.real(x.from, x.other)
	}
	return pack + "::" + name
}

// leads reports whether a name leads to another one, in no step or more.
func (m *model) leads(pack, name, toPack, toName string) bool {
	if pack == toPack && name == toName {
		return true
	}
	x, ok := m.find(pack, name)
	return ok && x.glob && m.leads(x.from, x.other, toPack, toName)
}

// depth returns what going through a package gives, while those of a list are gone through already.
func (m *model) depth(pack string, open []string) []string {
	if slices.Contains(open, pack) {
		return nil
	}
	all := []string{pack}
	for _, parent := range m.parents[pack] {
		all = append(all, m.depth(parent, append(slices.Clone(open), pack))...)
	}
	var once []string
	for _, x := range all {
		if !slices.Contains(once, x) {
			once = append(once, x)
		}
	}
	return once
}

// isOwnAncestor reports whether a package is among its ancestors.
func (m *model) isOwnAncestor(pack string) bool {
	return slices.ContainsFunc(m.parents[pack], func(parent string) bool { return slices.Contains(m.depth(parent, nil), pack) })
}

// merged returns the merged order, or nothing.
func (m *model) merged(pack string) []string {
	if m.isOwnAncestor(pack) {
		return nil
	}
	var lists [][]string
	for _, parent := range m.parents[pack] {
		lists = append(lists, m.merged(parent))
		if len(lists[len(lists)-1]) == 0 {
			return nil
		}
	}
	lists = append(lists, m.parents[pack])
	order := []string{pack}
	for strings.Join(slices.Concat(lists...), "") != "" {
		next := ""
		for _, l := range slices.Backward(lists) {
			if len(l) > 0 && !slices.ContainsFunc(lists, func(o []string) bool { return slices.Index(o, l[0]) > 0 }) {
				next = l[0]
			}
		}
		if next == "" {
			return nil
		}
		order = append(order, next)
		for i, l := range lists {
			lists[i] = slices.DeleteFunc(slices.Clone(l), func(x string) bool { return x == next })
		}
	}
	return order
}

// search returns the first sub that a name stands for in some packages.
func (m *model) search(order []string, name string) string {
	for _, pack := range order {
		if full := m.real(pack, name); full != "" {
			return full
		}
	}
	return ""
}

// free returns the errors of a name that is put in.
func (m *model) free(pack, name string) api.Errno {
	if _, ok := m.find(pack, name); ok {
		return api.ErrTwice
	}
	return api.OK
}

// act does one thing by chance in the stash and in the model.
func (m *model) act(t *testing.T, s *stash.Stash, r *rand.Rand) {
	t.Helper()
	pack, from := somePacks[r.Intn(len(somePacks)-1)], somePacks[r.Intn(len(somePacks))]
	name, other := someNames[r.Intn(len(someNames))], someNames[r.Intn(len(someNames))]
	want, got := m.free(pack, name), api.OK
	switch x := r.Intn(100); {
	case x < 35:
		l := m.someParents(r, slices.Index(somePacks, pack))
		want, got = api.OK, s.Parents(pack, l)
		if len(slices.Compact(slices.Sorted(slices.Values(l)))) < len(l) {
			want = api.ErrTwice
		} else {
			m.make(pack)
			m.parents[pack] = l
		}
	case x < 60:
		got = s.Define(pack, name)
		if want == api.OK {
			m.make(pack)
			m.entries = append(m.entries, entry{pack: pack, name: name})
		}
	case x < 85:
		got = s.Alias(pack, name, from, other)
		if want == api.OK && m.leads(from, other, pack, name) {
			want = api.ErrRule
		} else if want == api.OK {
			m.make(pack)
			m.entries = append(m.entries, entry{pack, name, true, from, other})
		}
	default:
		got = s.Remove(pack, name)
		want = api.OK
		if e, ok := m.find(pack, name); !ok {
			want = api.ErrNone
		} else {
			m.entries = slices.DeleteFunc(m.entries, func(x entry) bool { return x == e })
		}
	}
	if got != want {
		t.Fatalf("%s %s %s %s: error %d; want %d", pack, name, from, other, got, want)
	}
}

// someParents returns parents for a package, mostly those behind it, so that there are merged orders.
func (m *model) someParents(r *rand.Rand, at int) []string {
	var l []string
	for range r.Intn(4) {
		k := at + 1 + r.Intn(len(somePacks)-1-at)
		if r.Intn(12) == 0 {
			k = r.Intn(len(somePacks))
		}
		l = append(l, somePacks[k])
	}
	return l
}

// check compares the stash with the model.
func (m *model) check(t *testing.T, s *stash.Stash) {
	t.Helper()
	wantPackages(t, s, strings.Join(slices.Sorted(slices.Values(m.packs)), " "))
	for _, pack := range somePacks {
		m.checkNames(t, s, pack)
		depth, merged := m.depth(pack, nil), m.merged(pack)
		wantDepth(t, s, pack, strings.Join(depth, " "))
		wantMerged(t, s, pack, strings.Join(merged, " "))
		if len(merged) > 0 && !slices.Equal(slices.Sorted(slices.Values(depth)), slices.Sorted(slices.Values(merged))) {
			t.Errorf("%s: the orders %q and %q have other packages", pack, depth, merged)
		}
		if got := stash.Depth(m.parents, pack); !slices.Equal(got, depth) {
			t.Errorf("the function Depth of %s: %q; want %q", pack, got, depth)
		}
		for _, other := range somePacks {
			if got, e := s.IsA(pack, other); got != slices.Contains(depth, other) || e != api.OK {
				t.Errorf("IsA %s %s: %v, error %d", pack, other, got, e)
			}
		}
		for _, name := range someNames {
			wantReal(t, s, pack+"::"+name, m.real(pack, name))
			m.checkMethod(t, s, pack, name, depth, false)
			m.checkMethod(t, s, pack, name, merged, true)
		}
	}
}

// checkNames compares the names of a package.
func (m *model) checkNames(t *testing.T, s *stash.Stash, pack string) {
	t.Helper()
	if !slices.Contains(m.packs, pack) {
		if l, e := s.Names(pack); len(l) > 0 || e != api.ErrNone {
			t.Errorf("Names %s: %q, error %d", pack, l, e)
		}
		return
	}
	var l []string
	for _, x := range m.entries {
		if x.pack == pack {
			l = append(l, x.name)
		}
	}
	slices.Sort(l)
	wantNames(t, s, pack, strings.Join(l, " "))
}

// checkMethod compares Method and After with what is found in an order; an empty one: there is none.
func (m *model) checkMethod(t *testing.T, s *stash.Stash, pack, name string, order []string, merged bool) {
	t.Helper()
	want, wantE := m.search(order, name), api.OK
	if want == "" {
		want = m.search(order, "AUTOLOAD")
	}
	if len(order) == 0 {
		wantE = api.ErrRule
	}
	p, n, ok, e := s.Method(pack, name, merged)
	if got := whole(t, p, n, ok); got != want || e != wantE {
		t.Errorf("Method %s %s %v: %q, error %d; want %q, error %d", pack, name, merged, got, e, want, wantE)
	}
	for _, in := range somePacks {
		want, wantE := "", api.OK
		if at := slices.Index(order, in); at >= 0 {
			want = m.search(order[at+1:], name)
		} else if wantE = api.ErrNone; len(order) == 0 {
			wantE = api.ErrRule
		}
		p, n, ok, e := s.After(pack, in, name, merged)
		if got := whole(t, p, n, ok); got != want || e != wantE {
			t.Errorf("After %s %s %s %v: %q, error %d; want %q, error %d", pack, in, name, merged, got, e, want, wantE)
		}
	}
}

// rebuilt returns a stash that is made of what the model has.
func (m *model) rebuilt(t *testing.T) *stash.Stash {
	t.Helper()
	s := stash.New()
	for _, pack := range m.packs {
		must(t, s.Parents(pack, m.parents[pack]))
	}
	for _, x := range slices.Backward(m.entries) {
		if x.glob {
			must(t, s.Alias(x.pack, x.name, x.from, x.other))
		} else {
			must(t, s.Define(x.pack, x.name))
		}
	}
	return s
}

// P8.1 to P8.3: stashes by chance are what the model says after each act, and equal to one that is made anew.
func TestRandom(t *testing.T) {
	for seed := range int64(120) {
		r := rand.New(rand.NewSource(seed))
		s, m := stash.New(), &model{parents: map[string][]string{}}
		for range 10 + r.Intn(40) {
			before := s.Copy()
			m.act(t, s, r)
			after := s.Copy()
			m.check(t, s)
			wantSame(t, s, after)
			if stash.Same(before, s) != stash.Same(s, before) {
				t.Error("Same is not the same the other way round")
			}
			if t.Failed() {
				t.Fatalf("seed %d", seed)
			}
		}
		wantSame(t, s, m.rebuilt(t))
	}
}
