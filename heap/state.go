package heap

import (
	"slices"

	"motley/api"
)

const maxFields = 8

// The kinds of references in fields.
const (
	none = iota
	strongly
	weakly
)

// reference is what a field has; that of an empty one is the zero value.
type reference struct {
	kind, to int
}

// cell is a cell; told: Next has returned it.
type cell struct {
	fields               [maxFields]reference
	size                 int
	watched, told, ended bool
	roots                int
	count                int
}

// state is what a heap has. Its methods are called by who holds the locks of the heap.
type state struct {
	cells []cell
	notes []int
}

// check returns ErrNone if there is no such cell.
func (s *state) check(n int) api.Errno {
	if n < 0 || n >= len(s.cells) {
		return api.ErrNone
	}
	return api.OK
}

// checkLive returns the errors of a cell that must not have ended.
func (s *state) checkLive(n int) api.Errno {
	if e := s.check(n); e != api.OK {
		return e
	}
	if s.cells[n].ended {
		return api.ErrState
	}
	return api.OK
}

// checkField returns the errors of a field of a cell that must not have ended.
func (s *state) checkField(n, field int) api.Errno {
	if e := s.checkLive(n); e != api.OK {
		return e
	}
	if field < 0 || field >= s.cells[n].size {
		return api.ErrArg
	}
	return api.OK
}

// add makes a cell, notes it, and returns its number.
func (s *state) add(fields int, watched bool) int {
	n := len(s.cells)
	s.cells = append(s.cells, cell{size: fields, watched: watched})
	s.notes = append(s.notes, n)
	return n
}

// refer makes a field a reference.
func (s *state) refer(n, field, to int, weak bool) {
	s.empty(n, field)
	if weak {
		s.cells[n].fields[field] = reference{weakly, to}
		return
	}
	s.cells[n].fields[field] = reference{strongly, to}
	s.cells[to].count++
}

// empty makes a field empty.
func (s *state) empty(n, field int) {
	old := s.cells[n].fields[field]
	s.cells[n].fields[field] = reference{}
	if old.kind == strongly {
		s.release(old.to)
	}
}

// release counts one reference to a cell less, and notes it if that was the last one.
func (s *state) release(n int) {
	s.cells[n].count--
	if s.cells[n].count == 0 {
		s.notes = append(s.notes, n)
	}
}

// root takes a cell as a root once more.
func (s *state) root(n int) {
	s.cells[n].roots++
	s.cells[n].count++
}

// drop takes a cell as a root once less.
func (s *state) drop(n int) {
	s.cells[n].roots--
	s.release(n)
}

// next returns the next cell that is told, as a root, and ends the noted cells before it.
func (s *state) next() (int, bool) {
	for len(s.notes) > 0 {
		n := s.notes[0]
		s.notes = s.notes[1:]
		c := &s.cells[n]
		if c.count > 0 || c.ended {
			continue
		}
		if c.watched && !c.told {
			c.told = true
			s.root(n)
			return n, true
		}
		s.end(n)
	}
	return 0, false
}

// end ends a cell: no weak reference leads to it any more, and it leads to no other one.
func (s *state) end(n int) {
	s.cells[n].ended = true
	weak := reference{weakly, n}
	for i := range s.cells {
		for f, r := range s.cells[i].fields {
			if r == weak {
				s.cells[i].fields[f] = reference{}
			}
		}
	}
	for f := range s.cells[n].size {
		s.empty(n, f)
	}
}

// settle tells and drops until there is nothing to tell.
func (s *state) settle() []int {
	var told []int
	for {
		n, ok := s.next()
		if !ok {
			return told
		}
		told = append(told, n)
		s.drop(n)
	}
}

// mark marks a cell and all those to which strong references lead from it.
func (s *state) mark(n int, seen []bool) {
	if seen[n] {
		return
	}
	seen[n] = true
	s.markParts(n, seen)
}

// markParts marks the cells to which strong references lead from a cell, in one step or more.
func (s *state) markParts(n int, seen []bool) {
	for _, r := range s.cells[n].fields {
		if r.kind == strongly {
			s.mark(r.to, seen)
		}
	}
}

// reached marks the cells that are reached.
func (s *state) reached() []bool {
	seen := make([]bool, len(s.cells))
	for n, c := range s.cells {
		if c.roots > 0 {
			s.mark(n, seen)
		}
	}
	return seen
}

// lost returns the cells that have not ended and are not reached.
func (s *state) lost() []int {
	left := s.reached()
	for n, c := range s.cells {
		left[n] = !left[n] && !c.ended
	}
	return members(left)
}

// cycles returns the largest sets of cells that lead to each other, or of one that leads to itself.
func (s *state) cycles() [][]int {
	leads := make([][]bool, len(s.cells))
	for n := range s.cells {
		leads[n] = make([]bool, len(s.cells))
		s.markParts(n, leads[n])
	}
	var all [][]int
	for n := range s.cells {
		with := make([]bool, len(s.cells))
		for m := range s.cells {
			with[m] = leads[n][m] && leads[m][n]
		}
		// Each of the cells of a cycle would give its set: the first one does.
		if l := members(with); len(l) > 0 && l[0] == n {
			all = append(all, l)
		}
	}
	return all
}

// copied returns an equal state that shares no memory.
func (s *state) copied() state {
	notes := make([]int, len(s.notes))
	copy(notes, s.notes)
	return state{cells: slices.Clone(s.cells), notes: notes}
}

// members returns the set of the numbers that are marked.
func members(marked []bool) []int {
	var l []int
	for n, is := range marked {
		if is {
			l = append(l, n)
		}
	}
	return l
}
