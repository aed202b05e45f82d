package heap_test

import (
	"slices"
	"testing"

	"motley/api"
	"motley/heap"
)

// made returns a heap with a cell of each number of fields, watched where the number is 10 or more (10: no field).
func made(t *testing.T, sizes ...int) *heap.Heap {
	t.Helper()
	h := heap.New()
	for i, n := range sizes {
		if at, e := h.Make(n%10, n >= 10); at != i || e != api.OK {
			t.Fatalf("Make of cell %d: %d, error %d", i, at, e)
		}
	}
	return h
}

// must stops a test at an error.
func must(t *testing.T, e api.Errno) {
	t.Helper()
	if e != api.OK {
		t.Fatalf("error %d", e)
	}
}

// refers makes strong references, each from a cell by a field to a cell.
func refers(t *testing.T, h *heap.Heap, l ...[3]int) {
	t.Helper()
	for _, x := range l {
		must(t, h.Set(x[0], x[1], x[2], false))
	}
}

// weakens makes weak references.
func weakens(t *testing.T, h *heap.Heap, l ...[3]int) {
	t.Helper()
	for _, x := range l {
		must(t, h.Set(x[0], x[1], x[2], true))
	}
}

// roots takes cells as roots.
func roots(t *testing.T, h *heap.Heap, l ...int) {
	t.Helper()
	for _, n := range l {
		must(t, h.Root(n))
	}
}

// drops drops cells.
func drops(t *testing.T, h *heap.Heap, l ...int) {
	t.Helper()
	for _, n := range l {
		must(t, h.Drop(n))
	}
}

// wantField checks what Get tells of a field.
func wantField(t *testing.T, h *heap.Heap, cell, field, to int, is, weak bool) {
	t.Helper()
	gotTo, gotIs, gotWeak, e := h.Get(cell, field)
	if gotTo != to || gotIs != is || gotWeak != weak || e != api.OK {
		t.Errorf("Get %d %d: %d %v %v, error %d; want %d %v %v", cell, field, gotTo, gotIs, gotWeak, e, to, is, weak)
	}
}

// wantCounts checks the counts of all cells.
func wantCounts(t *testing.T, h *heap.Heap, want ...int) {
	t.Helper()
	for i, n := range want {
		if got, e := h.Count(i); got != n || e != api.OK {
			t.Errorf("Count %d: %d, error %d; want %d", i, got, e, n)
		}
	}
}

// wantStates checks the states of all cells.
func wantStates(t *testing.T, h *heap.Heap, want ...int) {
	t.Helper()
	for i, n := range want {
		if got, e := h.State(i); got != n || e != api.OK {
			t.Errorf("State %d: %d, error %d; want %d", i, got, e, n)
		}
	}
}

// wantNext checks that Next tells a cell.
func wantNext(t *testing.T, h *heap.Heap, want int) {
	t.Helper()
	if n, ok := h.Next(); n != want || !ok {
		t.Errorf("Next: %d %v; want %d", n, ok, want)
	}
}

// wantNone checks that Next tells no cell.
func wantNone(t *testing.T, h *heap.Heap) {
	t.Helper()
	if n, ok := h.Next(); n != 0 || ok {
		t.Errorf("Next: %d %v; want none", n, ok)
	}
}

// wantSettle checks what Settle tells.
func wantSettle(t *testing.T, h *heap.Heap, want ...int) {
	t.Helper()
	if got := h.Settle(); !slices.Equal(got, want) {
		t.Errorf("Settle: %v; want %v", got, want)
	}
}

// sameSets reports whether two lists of sets are equal.
func sameSets(a, b [][]int) bool {
	return slices.EqualFunc(a, b, func(x, y []int) bool { return slices.Equal(x, y) })
}
