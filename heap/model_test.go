package heap_test

import (
	"math/rand"
	"slices"
	"testing"

	"motley/api"
	"motley/heap"
)

// fact is what the model keeps of a cell: its fields, from each of which it refers to a cell (-1: it does not).
type fact struct {
	to                   []int
	weak                 []bool
	watched, told, ended bool
	roots                int
}

// model is a heap as the chapter describes it: it finds each count anew by going through all cells.
type model struct {
	cells []*fact
	notes []int
}

func (m *model) count(n int) int {
	sum := m.cells[n].roots
	for _, c := range m.cells {
		for f, to := range c.to {
			if to == n && !c.weak[f] && !c.ended {
				sum++
			}
		}
	}
	return sum
}

// step does one thing and notes the cells whose counts became 0.
func (m *model) step(do func()) {
	var before []int
	for n := range m.cells {
		before = append(before, m.count(n))
	}
	do()
	for n := range before {
		if before[n] > 0 && m.count(n) == 0 {
			m.notes = append(m.notes, n)
		}
	}
}

func (m *model) clear(n, f int) { m.step(func() { m.cells[n].to[f] = -1 }) }

func (m *model) set(n, f, to int, weak bool) {
	m.clear(n, f)
	m.cells[n].to[f], m.cells[n].weak[f] = to, weak
}

func (m *model) next() (int, bool) {
	for len(m.notes) > 0 {
		n := m.notes[0]
		m.notes = slices.Clone(m.notes[1:])
		c := m.cells[n]
		if c.ended || m.count(n) > 0 {
			continue
		}
		if c.watched && !c.told {
			c.told = true
			c.roots++
			return n, true
		}
		for _, d := range m.cells {
			for f, to := range d.to {
				if to == n && d.weak[f] {
					d.to[f] = -1
				}
			}
		}
		for f := range c.to {
			m.clear(n, f)
		}
		c.ended = true
	}
	return 0, false
}

func (m *model) settle() []int {
	var told []int
	for n, ok := m.next(); ok; n, ok = m.next() {
		told = append(told, n)
		m.step(func() { m.cells[n].roots-- })
	}
	return told
}

// leads returns which cells lead to which ones, in one step or more.
func (m *model) leads() [][]bool {
	all := make([][]bool, len(m.cells))
	for n, c := range m.cells {
		all[n] = make([]bool, len(m.cells))
		for f, to := range c.to {
			if to >= 0 && !c.weak[f] {
				all[n][to] = true
			}
		}
	}
	for k := range all {
		for i := range all {
			for j := range all {
				all[i][j] = all[i][j] || all[i][k] && all[k][j]
			}
		}
	}
	return all
}

// sets returns what is reached, what is lost, and the cycles.
func (m *model) sets() (reached, lost []int, cycles [][]int) {
	leads := m.leads()
	done := map[int]bool{}
	for n, c := range m.cells {
		held := c.roots > 0
		for r, d := range m.cells {
			held = held || d.roots > 0 && leads[r][n]
		}
		if held {
			reached = append(reached, n)
		} else if !c.ended {
			lost = append(lost, n)
		}
		if !leads[n][n] || done[n] {
			continue
		}
		var with []int
		for o := range m.cells {
			if leads[n][o] && leads[o][n] {
				with = append(with, o)
				done[o] = true
			}
		}
		cycles = append(cycles, with)
	}
	return
}

// check compares a heap with the model.
func (m *model) check(t *testing.T, h *heap.Heap) {
	t.Helper()
	for n, c := range m.cells {
		state := 0
		if c.ended {
			state = 2
		} else if c.told {
			state = 1
		}
		wantStates(t, h, append(statesBefore(t, h, n), state)...)
		if got, e := h.Count(n); got != m.count(n) || e != api.OK {
			t.Fatalf("Count %d: %d, error %d; want %d", n, got, e, m.count(n))
		}
		for f, to := range c.to {
			if c.ended {
				break
			}
			wantField(t, h, n, f, max(to, 0), to >= 0, to >= 0 && c.weak[f])
		}
	}
	reached, lost, cycles := m.sets()
	wantSets(t, h, reached, lost)
	if got := h.Cycles(); !sameSets(got, cycles) {
		t.Fatalf("Cycles %v; want %v", got, cycles)
	}
}

// statesBefore returns the states of the cells before one, as they are.
func statesBefore(t *testing.T, h *heap.Heap, n int) []int {
	var l []int
	for i := range n {
		s, e := h.State(i)
		must(t, e)
		l = append(l, s)
	}
	return l
}

// cell returns the errors of a cell that must not have ended.
func (m *model) cell(n int) api.Errno {
	if n < 0 || n >= len(m.cells) {
		return api.ErrNone
	}
	if m.cells[n].ended {
		return api.ErrState
	}
	return api.OK
}

func (m *model) field(n, f int) api.Errno {
	if e := m.cell(n); e != api.OK {
		return e
	}
	if f < 0 || f >= len(m.cells[n].to) {
		return api.ErrArg
	}
	return api.OK
}

// make makes a cell in the heap and in the model.
func (m *model) make(t *testing.T, h *heap.Heap, fields int, watched bool) {
	want, wantE := len(m.cells), api.OK
	if fields < 0 || fields > 8 {
		want, wantE = 0, api.ErrArg
	} else if len(m.cells) >= api.MaxCells {
		want, wantE = 0, api.ErrLarge
	} else {
		c := &fact{watched: watched, weak: make([]bool, fields)}
		for range fields {
			c.to = append(c.to, -1)
		}
		m.cells = append(m.cells, c)
		m.notes = append(m.notes, want)
	}
	if n, e := h.Make(fields, watched); n != want || e != wantE {
		t.Fatalf("Make %d: %d, error %d; want %d, error %d", fields, n, e, want, wantE)
	}
}

// refer sets a field of the heap and of the model.
func (m *model) refer(t *testing.T, h *heap.Heap, n, f, to int, weak bool) {
	want := m.field(n, f)
	if want == api.OK {
		want = m.cell(to)
	}
	if e := h.Set(n, f, to, weak); e != want {
		t.Fatalf("Set %d %d %d: error %d; want %d", n, f, to, e, want)
	}
	if want == api.OK {
		m.set(n, f, to, weak)
	}
}

// empty clears a field of the heap and of the model.
func (m *model) empty(t *testing.T, h *heap.Heap, n, f int) {
	want := m.field(n, f)
	if e := h.Clear(n, f); e != want {
		t.Fatalf("Clear %d %d: error %d; want %d", n, f, e, want)
	}
	if want == api.OK {
		m.clear(n, f)
	}
}

// root takes a root in the heap and in the model.
func (m *model) root(t *testing.T, h *heap.Heap, n int) {
	want := m.cell(n)
	if e := h.Root(n); e != want {
		t.Fatalf("Root %d: error %d; want %d", n, e, want)
	}
	if want == api.OK {
		m.cells[n].roots++
	}
}

// drop drops a root in the heap and in the model.
func (m *model) drop(t *testing.T, h *heap.Heap, n int) {
	want := m.cell(n)
	if want == api.OK && m.cells[n].roots == 0 {
		want = api.ErrRule
	}
	if e := h.Drop(n); e != want {
		t.Fatalf("Drop %d: error %d; want %d", n, e, want)
	}
	if want == api.OK {
		m.step(func() { m.cells[n].roots-- })
	}
}

// tell calls Next of the heap and of the model.
func (m *model) tell(t *testing.T, h *heap.Heap) {
	want, wantOk := m.next()
	if n, ok := h.Next(); n != want || ok != wantOk {
		t.Fatalf("Next: %d %v; want %d %v", n, ok, want, wantOk)
	}
}

// act does one thing by chance.
func (m *model) act(t *testing.T, h *heap.Heap, r *rand.Rand) {
	n := len(m.cells)
	some := func() int { return r.Intn(n+2) - 1 }
	switch x := r.Intn(100); {
	case x < 8 && n < 12 || n == 0:
		m.make(t, h, r.Intn(11)-1, r.Intn(2) == 0)
	case x < 55:
		m.refer(t, h, some(), r.Intn(6)-1, some(), r.Intn(4) == 0)
	case x < 65:
		m.empty(t, h, some(), r.Intn(6)-1)
	case x < 78:
		m.root(t, h, some())
	case x < 93:
		m.drop(t, h, some())
	case x < 98:
		m.tell(t, h)
	default:
		wantSettle(t, h, m.settle()...)
	}
}

// P7.1 to P7.4: heaps by chance are what the model says after each act, and acts on a copy give an equal heap.
func TestRandom(t *testing.T) {
	for seed := range int64(400) {
		r := rand.New(rand.NewSource(seed))
		h, m := heap.New(), &model{}
		for range 20 + r.Intn(100) {
			m.act(t, h, r)
			m.check(t, h)
			if t.Failed() {
				t.Fatalf("seed %d", seed)
			}
		}
		c := h.Copy()
		wantSettle(t, c, m.Copy().settle()...)
		m.check(t, h)
		wantSettle(t, h, m.settle()...)
		m.check(t, h)
		settled(t, h, m)
		if !heap.Same(h, c) || t.Failed() {
			t.Fatalf("seed %d: settled, the copy differs", seed)
		}
	}
}

// Copy returns a model of its own that is equal.
func (m *model) Copy() *model {
	n := &model{notes: slices.Clone(m.notes)}
	for _, c := range m.cells {
		d := *c
		d.to, d.weak = slices.Clone(c.to), slices.Clone(c.weak)
		n.cells = append(n.cells, &d)
	}
	return n
}

// settled checks the two consequences (S8) of Settle.
func settled(t *testing.T, h *heap.Heap, m *model) {
	t.Helper()
	for n := range m.cells {
		s, _ := h.State(n)
		if c, _ := h.Count(n); c == 0 && s != 2 {
			t.Errorf("the cell %d has the count 0 and has not ended", n)
		}
	}
	lost, leads := h.Lost(), m.leads()
	for _, n := range lost {
		if !slices.ContainsFunc(lost, func(o int) bool { return leads[o][o] && (o == n || leads[o][n]) }) {
			t.Errorf("the lost cell %d is neither on a cycle nor behind one", n)
		}
	}
	wantNone(t, h)
}
