package stash

import "motley/api"

// place is a name in a package.
type place struct {
	pack, name string
}

// check returns the errors of a stash, of names of packages and of names.
func (s *Stash) check(packs []string, names ...string) api.Errno {
	if s == nil {
		return api.ErrState
	}
	for _, pack := range packs {
		if !isPackage(pack) {
			return api.ErrArg
		}
	}
	for _, name := range names {
		if !isName(name) {
			return api.ErrArg
		}
	}
	return api.OK
}

// checkFree returns the errors of a name that is to be put into its package.
func (s *Stash) checkFree(at place) api.Errno {
	if !s.hasRoom(at.pack) {
		return api.ErrLarge
	}
	if s.has(at) {
		return api.ErrTwice
	}
	return api.OK
}

// hasRoom reports whether a package is there or can be made.
func (s *Stash) hasRoom(pack string) bool {
	_, there := s.parents[pack]
	return there || len(s.parents) < api.MaxPacks
}

// add makes a package if it is not there.
func (s *Stash) add(pack string) {
	// A Stash that is not made by New has no maps.
	if s.parents == nil {
		*s = *New()
	}
	if _, there := s.parents[pack]; !there {
		s.parents[pack] = nil
	}
}

// has reports whether a name is there, as a sub or a glob.
func (s *Stash) has(at place) bool {
	_, glob := s.globs[at]
	return glob || s.subs[at]
}

// end follows a name by globs as far as they lead. They lead in no circle, since Alias refuses to close one.
func (s *Stash) end(at place) place {
	for {
		to, glob := s.globs[at]
		if !glob {
			return at
		}
		at = to
	}
}

// real returns the sub that a name stands for, if it leads to one.
func (s *Stash) real(at place) (place, bool) {
	sub := s.end(at)
	if !s.subs[sub] {
		return place{}, false
	}
	return sub, true
}

// first returns the sub that a name stands for in the first of some packages in which it leads to one.
func (s *Stash) first(packs []string, name string) (place, bool) {
	for _, pack := range packs {
		if sub, ok := s.real(place{pack, name}); ok {
			return sub, true
		}
	}
	return place{}, false
}

// namesOf returns the names of a package among places, in any order.
func namesOf[V any](places map[place]V, pack string) []string {
	var l []string
	for at := range places {
		if at.pack == pack {
			l = append(l, at.name)
		}
	}
	return l
}

// copied returns a map of its own with the same keys and values.
func copied[K comparable, V any](m map[K]V) map[K]V {
	c := make(map[K]V, len(m))
	for k, v := range m {
		c[k] = v
	}
	return c
}
