package heap_test

import (
	"testing"

	"motley/api"
	"motley/heap"
)

// P7.1: Make numbers cells from 0 on; their fields are empty, from 0 to 8 of them.
func TestMake(t *testing.T) {
	h := made(t, 0, 8, 12)
	for f := range 8 {
		wantField(t, h, 1, f, 0, false, false)
	}
	wantField(t, h, 2, 1, 0, false, false)
	for _, x := range []struct{ cell, field int }{{0, 0}, {1, 8}, {1, -1}, {2, 2}} {
		if to, is, weak, e := h.Get(x.cell, x.field); to != 0 || is || weak || e != api.ErrArg {
			t.Errorf("Get %v: %d %v %v, error %d", x, to, is, weak, e)
		}
	}
	wantCounts(t, h, 0, 0, 0)
	wantStates(t, h, 0, 0, 0)
}

// P7.1: Make refuses other numbers of fields, and then cells beyond MaxCells, ended ones counted.
func TestMakeErrors(t *testing.T) {
	h := heap.New()
	for _, n := range []int{-1, 9, -1 << 62, 1 << 62} {
		if at, e := h.Make(n, true); at != 0 || e != api.ErrArg {
			t.Errorf("Make %d: %d, error %d", n, at, e)
		}
	}
	if !heap.Same(h, heap.New()) {
		t.Error("a refused Make changes the heap")
	}
	for i := range api.MaxCells {
		if at, e := h.Make(1, false); at != i || e != api.OK {
			t.Fatalf("Make: %d, error %d; want %d", at, e, i)
		}
		h.Settle()
	}
	before := h.Copy()
	if at, e := h.Make(1, false); at != 0 || e != api.ErrLarge {
		t.Errorf("Make in a full heap: %d, error %d", at, e)
	}
	if at, e := h.Make(9, false); at != 0 || e != api.ErrArg {
		t.Errorf("Make of 9 fields in a full heap: %d, error %d", at, e)
	}
	if !heap.Same(h, before) {
		t.Error("a refused Make changes the heap")
	}
}

// P7.1: Set makes a field a reference, of which only a strong one counts; Clear makes it empty.
func TestSet(t *testing.T) {
	h := made(t, 2, 0, 0)
	refers(t, h, [3]int{0, 0, 1})
	weakens(t, h, [3]int{0, 1, 1})
	wantField(t, h, 0, 0, 1, true, false)
	wantField(t, h, 0, 1, 1, true, true)
	wantCounts(t, h, 0, 1, 0)
	refers(t, h, [3]int{0, 0, 2}, [3]int{0, 1, 2})
	wantField(t, h, 0, 0, 2, true, false)
	wantField(t, h, 0, 1, 2, true, false)
	wantCounts(t, h, 0, 0, 2)
	weakens(t, h, [3]int{0, 0, 0})
	wantField(t, h, 0, 0, 0, true, true)
	wantCounts(t, h, 0, 0, 1)
	must(t, h.Clear(0, 1))
	must(t, h.Clear(0, 0))
	must(t, h.Clear(0, 0))
	wantField(t, h, 0, 0, 0, false, false)
	wantField(t, h, 0, 1, 0, false, false)
	wantCounts(t, h, 0, 0, 0)
}

// P7.1: a cell may refer to itself, and a reference may lead to a cell that nothing else holds.
func TestSetItself(t *testing.T) {
	h := made(t, 2)
	refers(t, h, [3]int{0, 0, 0}, [3]int{0, 1, 0})
	wantCounts(t, h, 2)
	wantSettle(t, h)
	wantStates(t, h, 0)
	must(t, h.Clear(0, 0))
	wantSettle(t, h)
	wantStates(t, h, 0)
	must(t, h.Clear(0, 1))
	wantSettle(t, h)
	wantStates(t, h, 2)
}

// P7.1: Root and Drop count a root as often as it was taken.
func TestRoots(t *testing.T) {
	h := made(t, 0, 0)
	roots(t, h, 0, 0, 1)
	wantCounts(t, h, 2, 1)
	drops(t, h, 0, 0)
	wantCounts(t, h, 0, 1)
	before := h.Copy()
	if e := h.Drop(0); e != api.ErrRule {
		t.Errorf("Drop of no root: error %d", e)
	}
	if !heap.Same(h, before) {
		t.Error("a refused Drop changes the heap")
	}
	wantSettle(t, h)
	wantStates(t, h, 2, 0)
}

// P7.1: a cell with strong references only is no root, so Drop refuses it.
func TestDropOfReferred(t *testing.T) {
	h := made(t, 1, 0)
	refers(t, h, [3]int{0, 0, 1})
	if e := h.Drop(1); e != api.ErrRule {
		t.Errorf("error %d", e)
	}
}

// withEnded returns a heap: the cells 0 and 1 live, with two fields each, and 2 has ended.
func withEnded(t *testing.T) *heap.Heap {
	h := made(t, 2, 2, 2)
	roots(t, h, 0, 1)
	wantSettle(t, h)
	refers(t, h, [3]int{0, 0, 1})
	return h
}

// P7.1: the errors of Set, in their order, and that nothing has changed with one.
func TestSetErrors(t *testing.T) {
	h := withEnded(t)
	before := h.Copy()
	for _, x := range []struct {
		cell, field, to int
		want            api.Errno
	}{
		{-1, -1, -1, api.ErrNone}, {3, 0, 0, api.ErrNone}, {3, 9, 2, api.ErrNone},
		{2, 0, 0, api.ErrState}, {2, -1, 3, api.ErrState}, {2, 2, 2, api.ErrState},
		{0, -1, 3, api.ErrArg}, {0, 2, 2, api.ErrArg}, {0, 2, 1, api.ErrArg}, {0, 8, -1, api.ErrArg},
		{0, 0, 3, api.ErrNone}, {0, 0, -1, api.ErrNone}, {0, 0, 1 << 62, api.ErrNone},
		{0, 0, 2, api.ErrState}, {0, 1, 2, api.ErrState},
	} {
		for _, weak := range []bool{false, true} {
			if e := h.Set(x.cell, x.field, x.to, weak); e != x.want {
				t.Errorf("Set %v %v: error %d", x, weak, e)
			}
		}
	}
	if !heap.Same(h, before) {
		t.Error("a refused Set changes the heap")
	}
}

// P7.1, P7.3: the errors of the other functions with a cell, in their order.
func TestCellErrors(t *testing.T) {
	h := withEnded(t)
	before := h.Copy()
	for _, x := range []struct {
		cell, field int
		want        api.Errno
	}{
		{-1, 0, api.ErrNone}, {3, -1, api.ErrNone}, {-1 << 62, 9, api.ErrNone},
		{2, 0, api.ErrState}, {2, 2, api.ErrState}, {2, -1, api.ErrState},
		{0, -1, api.ErrArg}, {1, 2, api.ErrArg}, {1, 1 << 62, api.ErrArg},
	} {
		if e := h.Clear(x.cell, x.field); e != x.want {
			t.Errorf("Clear %v: error %d", x, e)
		}
		if to, is, weak, e := h.Get(x.cell, x.field); to != 0 || is || weak || e != x.want {
			t.Errorf("Get %v: %d %v %v, error %d", x, to, is, weak, e)
		}
	}
	for _, x := range []struct {
		cell int
		want api.Errno
	}{{-1, api.ErrNone}, {3, api.ErrNone}, {2, api.ErrState}} {
		if e := h.Root(x.cell); e != x.want {
			t.Errorf("Root %v: error %d", x, e)
		}
		if e := h.Drop(x.cell); e != x.want {
			t.Errorf("Drop %v: error %d", x, e)
		}
	}
	for _, n := range []int{-1, 3, 100, 1 << 62} {
		if c, e := h.Count(n); c != 0 || e != api.ErrNone {
			t.Errorf("Count %d: %d, error %d", n, c, e)
		}
		if c, e := h.State(n); c != 0 || e != api.ErrNone {
			t.Errorf("State %d: %d, error %d", n, c, e)
		}
	}
	wantCounts(t, h, 1, 2, 0)
	wantStates(t, h, 0, 0, 2)
	if !heap.Same(h, before) {
		t.Error("a refused call changes the heap")
	}
}

// The methods of a nil heap return ErrState or zero values.
func TestNil(t *testing.T) {
	var h *heap.Heap
	if n, e := h.Make(9, true); n != 0 || e != api.ErrState {
		t.Errorf("Make: %d, error %d", n, e)
	}
	if to, is, weak, e := h.Get(-1, 0); to != 0 || is || weak || e != api.ErrState {
		t.Errorf("Get: %d %v %v, error %d", to, is, weak, e)
	}
	for i, e := range []api.Errno{h.Set(-1, 0, 0, false), h.Clear(-1, 0), h.Root(-1), h.Drop(-1)} {
		if e != api.ErrState {
			t.Errorf("function %d: error %d", i, e)
		}
	}
	if n, e := h.Count(-1); n != 0 || e != api.ErrState {
		t.Errorf("Count: %d, error %d", n, e)
	}
	if n, e := h.State(-1); n != 0 || e != api.ErrState {
		t.Errorf("State: %d, error %d", n, e)
	}
	wantNone(t, h)
	if h.Settle() != nil || h.Cycles() != nil || h.Lost() != nil || h.Reached() != nil || h.Copy() != nil {
		t.Error("a nil heap has something")
	}
}

// A heap that New did not make has no cells either.
func TestZeroHeap(t *testing.T) {
	var h heap.Heap
	if !heap.Same(&h, heap.New()) {
		t.Error("not the heap of New")
	}
	if n, e := h.Make(1, true); n != 0 || e != api.OK {
		t.Errorf("Make: %d, error %d", n, e)
	}
	wantSettle(t, &h, 0)
}
