package stash

import "slices"

// Depth returns the order by depth of a package, by the parents that a map has of each.
func Depth(of map[string][]string, pack string) []string {
	var order []string
	seen := map[string]bool{}
	// What is left to go through, the next one last: a list, since parents may follow each other
	// farther than calls can go into each other.
	left := []string{pack}
	for len(left) > 0 {
		last := len(left) - 1
		next := left[last]
		left = left[:last]
		if seen[next] {
			continue
		}
		seen[next] = true
		order = append(order, next)
		for _, parent := range slices.Backward(of[next]) {
			left = append(left, parent)
		}
	}
	return order
}

// order returns the order of a package in which methods are searched, if there is one.
func (s *Stash) order(pack string, merged bool) ([]string, bool) {
	find := s.depth
	if merged {
		find = s.merged
	}
	return find(pack)
}

func (s *Stash) depth(pack string) ([]string, bool) {
	return Depth(s.parents, pack), true
}

func (s *Stash) merged(pack string) ([]string, bool) {
	m := merger{s.parents, map[string][]string{}}
	order := m.order(pack)
	return order, len(order) > 0
}

// merger finds merged orders, each only once: there may be many ways to one ancestor.
type merger struct {
	parents map[string][]string
	known   map[string][]string // empty for a package that has no order
}

// order returns the merged order of a package, or an empty one if there is none.
func (m merger) order(pack string) []string {
	if order, ok := m.known[pack]; ok {
		return order
	}
	// If the package is among its own ancestors, it is met again there, and has no order.
	m.known[pack] = nil
	var lists [][]string
	for _, parent := range m.parents[pack] {
		order := m.order(parent)
		if len(order) == 0 {
			return nil
		}
		lists = append(lists, order)
	}
	behind, ok := merge(append(lists, m.parents[pack]))
	if ok {
		m.known[pack] = append([]string{pack}, behind...)
	}
	return m.known[pack]
}

// merge returns the names of lists in an order that all lists keep to, if none stand in each other's way.
func merge(lists [][]string) ([]string, bool) {
	isEmpty := func(l []string) bool { return len(l) == 0 }
	var order []string
	for {
		lists = slices.DeleteFunc(lists, isEmpty)
		if len(lists) == 0 {
			return order, true
		}
		next, ok := firstFree(lists)
		if !ok {
			return nil, false
		}
		order = append(order, next)
		for i, l := range lists {
			if l[0] == next {
				lists[i] = l[1:]
			}
		}
	}
}

// firstFree returns the first name of the first list whose first name is in no list behind its first place.
func firstFree(lists [][]string) (string, bool) {
	for _, l := range lists {
		isBehind := func(other []string) bool { return slices.Contains(other[1:], l[0]) }
		if !slices.ContainsFunc(lists, isBehind) {
			return l[0], true
		}
	}
	return "", false
}
