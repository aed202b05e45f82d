package heap_test

import (
	"testing"

	"motley/api"
	"motley/heap"
)

// P7.2: Next returns watched cells in the order in which they were noted, each as a root.
func TestNextTells(t *testing.T) {
	h := made(t, 10, 0, 10, 10)
	roots(t, h, 2)
	wantNext(t, h, 0)
	wantStates(t, h, 1, 0, 0, 0)
	wantCounts(t, h, 1, 0, 1, 0)
	wantNext(t, h, 3)
	// The cell 1 has ended on the way to 3, since it is not watched.
	wantStates(t, h, 1, 2, 0, 1)
	wantNone(t, h)
	drops(t, h, 2)
	wantNext(t, h, 2)
	wantStates(t, h, 1, 2, 1, 1)
}

// P7.2: what was told lives until Drop, and ends then without being told again.
func TestNextTellsOnce(t *testing.T) {
	h := made(t, 10)
	wantNext(t, h, 0)
	wantNone(t, h)
	wantStates(t, h, 1)
	drops(t, h, 0)
	wantStates(t, h, 1)
	wantNone(t, h)
	wantStates(t, h, 2)
	wantCounts(t, h, 0)
}

// P7.2: what was told may be held by others again; it is told no second time.
func TestNextOfResurrected(t *testing.T) {
	h := made(t, 1, 10)
	roots(t, h, 0)
	wantNext(t, h, 1)
	refers(t, h, [3]int{0, 0, 1})
	drops(t, h, 1)
	wantNone(t, h)
	wantStates(t, h, 0, 1)
	must(t, h.Clear(0, 0))
	wantNone(t, h)
	wantStates(t, h, 0, 2)
}

// P7.2: a note of a cell with a count is taken away, and so is one of a cell that has ended.
func TestNextPasses(t *testing.T) {
	h := made(t, 10, 0)
	roots(t, h, 0, 1)
	wantNone(t, h)
	wantStates(t, h, 0, 0)
	drops(t, h, 1)
	roots(t, h, 1)
	drops(t, h, 1)
	wantNone(t, h)
	wantStates(t, h, 0, 2)
	empty := made(t, 0)
	roots(t, empty, 0)
	wantNone(t, empty)
	noted := made(t, 0)
	roots(t, noted, 0)
	if heap.Same(empty, noted) {
		t.Error("Next leaves the notes")
	}
}

// P7.2: no notes, no cell.
func TestNextOfNothing(t *testing.T) {
	wantNone(t, heap.New())
	wantSettle(t, heap.New())
}

// P7.2: a cell that ends empties the weak references to it, its own ones too.
func TestEndWeak(t *testing.T) {
	h := made(t, 3, 2, 0)
	roots(t, h, 0, 2)
	weakens(t, h, [3]int{0, 0, 1}, [3]int{0, 1, 2}, [3]int{0, 2, 1}, [3]int{1, 0, 1}, [3]int{1, 1, 0})
	wantSettle(t, h)
	wantStates(t, h, 0, 2, 0)
	wantField(t, h, 0, 0, 0, false, false)
	wantField(t, h, 0, 1, 2, true, true)
	wantField(t, h, 0, 2, 0, false, false)
	wantCounts(t, h, 1, 0, 1)
}

// P7.2: a cell that is told keeps the weak references to it until it ends.
func TestTellWeak(t *testing.T) {
	h := made(t, 1, 10)
	roots(t, h, 0)
	weakens(t, h, [3]int{0, 0, 1})
	wantNext(t, h, 1)
	wantField(t, h, 0, 0, 1, true, true)
	drops(t, h, 1)
	wantField(t, h, 0, 0, 1, true, true)
	wantNone(t, h)
	wantField(t, h, 0, 0, 0, false, false)
}

// P7.2: the fields of a cell that ends are cleared in order, and note what nothing holds any more.
func TestEndOrder(t *testing.T) {
	h := made(t, 4, 10, 10, 10)
	roots(t, h, 0)
	refers(t, h, [3]int{0, 0, 3}, [3]int{0, 1, 1}, [3]int{0, 2, 2}, [3]int{0, 3, 3})
	wantSettle(t, h)
	drops(t, h, 0)
	wantSettle(t, h, 1, 2, 3)
	wantStates(t, h, 2, 2, 2, 2)
}

// P7.2: the fields of a watched cell hold until it ends, behind its telling.
func TestEndOfWatched(t *testing.T) {
	h := made(t, 11, 11, 10)
	refers(t, h, [3]int{0, 0, 1}, [3]int{1, 0, 2})
	wantNext(t, h, 0)
	wantNone(t, h)
	wantStates(t, h, 1, 0, 0)
	drops(t, h, 0)
	wantNext(t, h, 1)
	wantStates(t, h, 2, 1, 0)
	wantSettle(t, h)
	drops(t, h, 1)
	wantSettle(t, h, 2)
	wantStates(t, h, 2, 2, 2)
}

// P7.2: Settle tells in the order of the notes: what a cell's end notes comes behind what was noted before.
func TestSettleOrder(t *testing.T) {
	h := made(t, 11, 10, 10)
	refers(t, h, [3]int{0, 0, 1})
	wantSettle(t, h, 0, 2, 1)
	wantStates(t, h, 2, 2, 2)
	wantCounts(t, h, 0, 0, 0)
	wantSettle(t, h)
}

// P7.1, P7.2: what a field had goes before the new reference, so the same cell is noted once more.
func TestSetNotes(t *testing.T) {
	again := made(t, 1, 0)
	refers(t, again, [3]int{0, 0, 1}, [3]int{0, 0, 1})
	once := made(t, 1, 0)
	refers(t, once, [3]int{0, 0, 1})
	wantCounts(t, again, 0, 1)
	if heap.Same(again, once) {
		t.Error("the cell is not noted when the old reference goes")
	}
	// Both notes are passed, since its count is 1 again.
	roots(t, again, 0)
	roots(t, once, 0)
	wantNone(t, again)
	wantNone(t, once)
	if !heap.Same(again, once) {
		t.Error("the heaps differ without notes")
	}
}

// P7.2: a cell is noted whenever its count becomes 0, and at no other time.
func TestNotes(t *testing.T) {
	settled := func() *heap.Heap {
		h := made(t, 2, 11)
		roots(t, h, 0, 1)
		wantSettle(t, h)
		weakens(t, h, [3]int{0, 0, 1})
		return h
	}
	h := settled()
	roots(t, h, 1)
	drops(t, h, 1)
	refers(t, h, [3]int{0, 1, 1})
	must(t, h.Clear(0, 1))
	if !heap.Same(h, settled()) {
		t.Error("a cell with a count is noted")
	}
	refers(t, h, [3]int{0, 1, 1})
	drops(t, h, 1)
	must(t, h.Clear(0, 1))
	unweak := h.Copy()
	must(t, h.Clear(0, 0))
	weakens(t, h, [3]int{0, 0, 1})
	if !heap.Same(h, unweak) {
		t.Error("a weak reference that goes notes a cell whose count is 0")
	}
	roots(t, h, 1)
	drops(t, h, 1)
	if heap.Same(h, unweak) {
		t.Error("a cell whose count becomes 0 again is not noted again")
	}
	wantSettle(t, h, 1)
	wantSettle(t, unweak, 1)
	if !heap.Same(h, unweak) {
		t.Error("the heaps differ without notes")
	}
}

// The chapter's examples.
func TestExamples(t *testing.T) {
	h := made(t, 1, 0)
	roots(t, h, 0)
	refers(t, h, [3]int{0, 0, 1})
	drops(t, h, 0)
	wantSettle(t, h)
	wantStates(t, h, 2, 2)

	h = made(t, 1, 1)
	refers(t, h, [3]int{0, 0, 1}, [3]int{1, 0, 0})
	wantSettle(t, h)
	wantStates(t, h, 0, 0)
	if got := h.Cycles(); !sameSets(got, [][]int{{0, 1}}) {
		t.Errorf("Cycles: %v", got)
	}
	wantSets(t, h, nil, []int{0, 1})

	h = made(t, 1, 0)
	roots(t, h, 0)
	weakens(t, h, [3]int{0, 0, 1})
	wantSettle(t, h)
	wantField(t, h, 0, 0, 0, false, false)
	if n, e := h.State(1); n != 2 || e != api.OK {
		t.Errorf("State: %d, error %d", n, e)
	}
}
