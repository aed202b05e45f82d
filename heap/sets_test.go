package heap_test

import (
	"slices"
	"testing"

	"motley/api"
	"motley/heap"
)

// wantSets checks what is reached and what is lost.
func wantSets(t *testing.T, h *heap.Heap, reached, lost []int) {
	t.Helper()
	if got := h.Reached(); !slices.Equal(got, reached) {
		t.Errorf("Reached: %v; want %v", got, reached)
	}
	if got := h.Lost(); !slices.Equal(got, lost) {
		t.Errorf("Lost: %v; want %v", got, lost)
	}
}

// P7.3: roots lead on by strong references, over any number of steps; ended cells are neither reached nor lost.
func TestReached(t *testing.T) {
	h := made(t, 0, 2, 1, 0, 2, 0, 1)
	roots(t, h, 3)
	wantSets(t, h, []int{3}, []int{0, 1, 2, 4, 5, 6})
	roots(t, h, 4, 4)
	refers(t, h, [3]int{4, 0, 1}, [3]int{1, 0, 2}, [3]int{2, 0, 0}, [3]int{6, 0, 4})
	weakens(t, h, [3]int{4, 1, 5})
	wantSets(t, h, []int{0, 1, 2, 3, 4}, []int{5, 6})
	wantSettle(t, h)
	wantSets(t, h, []int{0, 1, 2, 3, 4}, nil)
	weakens(t, h, [3]int{1, 0, 2})
	wantSets(t, h, []int{1, 3, 4}, []int{0, 2})
	drops(t, h, 4)
	wantSets(t, h, []int{1, 3, 4}, []int{0, 2})
	wantSets(t, heap.New(), nil, nil)
}

// P7.3: a loop of strong references is gone through once.
func TestReachedLoop(t *testing.T) {
	h := made(t, 1, 1, 1)
	refers(t, h, [3]int{0, 0, 1}, [3]int{1, 0, 2}, [3]int{2, 0, 0})
	wantSets(t, h, nil, []int{0, 1, 2})
	roots(t, h, 1)
	wantSets(t, h, []int{0, 1, 2}, nil)
}

// P7.3: a chain through all cells that a heap may have.
func TestReachedChain(t *testing.T) {
	h := heap.New()
	var all []int
	for i := range api.MaxCells {
		h.Make(1, false)
		all = append(all, i)
		if i > 0 {
			refers(t, h, [3]int{i - 1, 0, i})
		}
	}
	roots(t, h, 0)
	wantSets(t, h, all, nil)
	if got := h.Cycles(); len(got) != 0 {
		t.Errorf("Cycles of a chain: %v", got)
	}
	refers(t, h, [3]int{api.MaxCells - 1, 0, 0})
	if got := h.Cycles(); !sameSets(got, [][]int{all}) {
		t.Errorf("Cycles of a ring: %v", got)
	}
}

// P7.3: cycles are the largest sets of cells that lead to each other by strong references.
func TestCycles(t *testing.T) {
	for _, x := range []struct {
		what   string
		strong [][3]int
		weak   [][3]int
		want   [][]int
	}{
		{"nothing", nil, nil, nil},
		{"a reference", [][3]int{{0, 0, 1}, {1, 0, 2}}, nil, nil},
		{"itself", [][3]int{{2, 1, 2}}, nil, [][]int{{2}}},
		{"itself weakly", nil, [][3]int{{2, 1, 2}}, nil},
		{"each other", [][3]int{{4, 0, 1}, {1, 0, 4}}, nil, [][]int{{1, 4}}},
		{"each other, and itself", [][3]int{{4, 0, 1}, {1, 0, 4}, {4, 1, 4}}, nil, [][]int{{1, 4}}},
		{"one weakly", [][3]int{{4, 0, 1}}, [][3]int{{1, 0, 4}}, nil},
		{"two cycles with a cell between them", [][3]int{{5, 0, 3}, {3, 0, 5}, {3, 1, 0}, {0, 0, 1}, {1, 0, 2}, {2, 0, 1}}, nil, [][]int{{1, 2}, {3, 5}}},
		{"two cycles with a common cell", [][3]int{{0, 0, 5}, {5, 0, 0}, {5, 1, 3}, {3, 0, 5}}, nil, [][]int{{0, 3, 5}}},
		{"sets between each other", [][3]int{{0, 0, 4}, {4, 0, 0}, {1, 0, 3}, {3, 0, 1}, {2, 0, 2}, {0, 1, 1}}, nil, [][]int{{0, 4}, {1, 3}, {2}}},
	} {
		h := made(t, 2, 2, 2, 2, 2, 2)
		refers(t, h, x.strong...)
		weakens(t, h, x.weak...)
		if got := h.Cycles(); !sameSets(got, x.want) {
			t.Errorf("%s: Cycles %v; want %v", x.what, got, x.want)
		}
		roots(t, h, 0, 1, 2, 3, 4, 5)
		if got := h.Cycles(); !sameSets(got, x.want) {
			t.Errorf("%s, of roots: Cycles %v; want %v", x.what, got, x.want)
		}
	}
}

// P7.3 (Consequence, S8): what is lost and left is on a cycle, or behind one.
func TestLostBehindCycle(t *testing.T) {
	h := made(t, 2, 1, 0, 1)
	refers(t, h, [3]int{0, 0, 1}, [3]int{1, 0, 0}, [3]int{0, 1, 2}, [3]int{3, 0, 0})
	wantSettle(t, h)
	wantStates(t, h, 0, 0, 0, 2)
	wantSets(t, h, nil, []int{0, 1, 2})
	if got := h.Cycles(); !sameSets(got, [][]int{{0, 1}}) {
		t.Errorf("Cycles: %v", got)
	}
}

// P7.3: Count and State of a cell through its life.
func TestStates(t *testing.T) {
	h := made(t, 10, 0)
	roots(t, h, 0, 1)
	wantStates(t, h, 0, 0)
	drops(t, h, 0, 1)
	wantStates(t, h, 0, 0)
	wantNext(t, h, 0)
	wantStates(t, h, 1, 0)
	wantCounts(t, h, 1, 0)
	drops(t, h, 0)
	wantStates(t, h, 1, 0)
	wantSettle(t, h)
	wantStates(t, h, 2, 2)
	wantCounts(t, h, 0, 0)
}

// R5: sets are new memory.
func TestSetsAreNew(t *testing.T) {
	h := made(t, 1, 1, 10)
	roots(t, h, 0)
	refers(t, h, [3]int{0, 0, 1}, [3]int{1, 0, 0})
	before := h.Copy()
	for _, l := range append(h.Cycles(), h.Reached(), h.Lost()) {
		for i := range l {
			l[i] = 99
		}
	}
	if !heap.Same(h, before) || !sameSets(h.Cycles(), [][]int{{0, 1}}) {
		t.Error("a change of a result changes the heap")
	}
	wantSets(t, h, []int{0, 1}, []int{2})
	told := h.Settle()
	told[0] = 99
	wantStates(t, h, 0, 0, 2)
}
