package heap_test

import (
	"testing"

	"motley/heap"
)

// variants returns heaps of which no two are equal.
func variants(t *testing.T) []*heap.Heap {
	add := func(l []*heap.Heap, do func(h *heap.Heap), sizes ...int) []*heap.Heap {
		h := made(t, sizes...)
		do(h)
		return append(l, h)
	}
	nothing := func(h *heap.Heap) {}
	l := []*heap.Heap{nil}
	l = add(l, nothing)
	l = add(l, nothing, 0)
	l = add(l, nothing, 1)
	l = add(l, nothing, 11)
	l = add(l, nothing, 1, 1)
	l = add(l, nothing, 1, 2)
	l = add(l, nothing, 2, 1)
	for _, n := range []int{0, 1} {
		l = add(l, func(h *heap.Heap) { roots(t, h, n) }, 1, 1)
		l = add(l, func(h *heap.Heap) { roots(t, h, n, n) }, 1, 1)
		l = add(l, func(h *heap.Heap) { roots(t, h, n, n); drops(t, h, n, n) }, 1, 1)
		l = add(l, func(h *heap.Heap) { refers(t, h, [3]int{n, 0, 0}) }, 1, 1)
		l = add(l, func(h *heap.Heap) { refers(t, h, [3]int{n, 0, 1}) }, 1, 1)
		l = add(l, func(h *heap.Heap) { weakens(t, h, [3]int{n, 0, 0}) }, 1, 1)
		l = add(l, func(h *heap.Heap) { weakens(t, h, [3]int{n, 0, 1}) }, 1, 1)
		l = add(l, func(h *heap.Heap) { roots(t, h, n); h.Settle() }, 1, 1)
	}
	l = add(l, func(h *heap.Heap) { roots(t, h, 0, 1) }, 1, 1)
	l = add(l, func(h *heap.Heap) { roots(t, h, 0, 1); drops(t, h, 0, 1) }, 1, 1)
	l = add(l, func(h *heap.Heap) { roots(t, h, 0, 1); drops(t, h, 1, 0) }, 1, 1)
	l = add(l, func(h *heap.Heap) { h.Settle() }, 1, 1)
	l = add(l, func(h *heap.Heap) { roots(t, h, 0); h.Settle(); drops(t, h, 0) }, 1, 1)
	l = add(l, func(h *heap.Heap) { h.Next() }, 10)
	l = add(l, func(h *heap.Heap) { roots(t, h, 0); h.Next() }, 10)
	l = add(l, func(h *heap.Heap) { h.Next(); h.Drop(0) }, 10)
	l = add(l, func(h *heap.Heap) { h.Settle() }, 10)
	return l
}

// P7.4: Same sees each difference of cells, roots and notes, and a copy is equal.
func TestSame(t *testing.T) {
	l := variants(t)
	for i, a := range l {
		for j, b := range variants(t) {
			if heap.Same(a, b) != (i == j) {
				t.Errorf("Same of heaps %d and %d: %v", i, j, i != j)
			}
			if heap.Same(a.Copy(), b) != (i == j) {
				t.Errorf("Same of the copy of heap %d and of %d: %v", i, j, i != j)
			}
		}
		if !heap.Same(a, a) {
			t.Errorf("heap %d is not equal to itself", i)
		}
	}
}

// P7.4: the order in which roots were taken is no part of a heap.
func TestSameRoots(t *testing.T) {
	a, b := made(t, 0, 0), made(t, 0, 0)
	roots(t, a, 0, 1, 0)
	roots(t, b, 1, 0, 0)
	if !heap.Same(a, b) {
		t.Error("not equal")
	}
}

// P7.4, R5: a copy is a heap of its own.
func TestCopyIsNew(t *testing.T) {
	h := made(t, 1, 10, 0)
	roots(t, h, 0)
	refers(t, h, [3]int{0, 0, 1})
	before, c := h.Copy(), h.Copy()
	wantSettle(t, c)
	must(t, c.Clear(0, 0))
	wantSettle(t, c, 1)
	c.Make(3, true)
	roots(t, c, 0)
	if !heap.Same(h, before) {
		t.Error("a change of the copy changes the heap")
	}
	c = h.Copy()
	drops(t, h, 0)
	wantSettle(t, h, 1)
	h.Make(3, true)
	if !heap.Same(c, before) {
		t.Error("a change of the heap changes the copy")
	}
}

// P7.4: two copies of a heap with notes do not note into the same memory.
func TestCopiesOfNotes(t *testing.T) {
	h := made(t, 10, 10, 10)
	a, b := h.Copy(), h.Copy()
	a.Make(0, true)
	b.Make(0, true)
	roots(t, a, 3)
	drops(t, a, 3)
	roots(t, b, 1)
	drops(t, b, 1)
	roots(t, h, 0)
	drops(t, h, 0)
	wantSettle(t, a, 0, 1, 2, 3)
	wantSettle(t, b, 0, 1, 2, 3)
	wantSettle(t, h, 0, 1, 2)
}
