package heap_test

import (
	"slices"
	"sync"
	"sync/atomic"
	"testing"

	"motley/api"
	"motley/heap"
)

// together runs each function in a goroutine of its own and waits for all of them.
func together(l ...func()) {
	var w sync.WaitGroup
	for _, do := range l {
		w.Go(do)
	}
	w.Wait()
}

// until runs a function in a goroutine of its own, again and again, while another one runs.
func until(do, again func()) {
	var done atomic.Bool
	together(func() { do(); done.Store(true) }, func() {
		for !done.Load() {
			again()
		}
	})
}

// Several goroutines make cells: each gets numbers of its own.
func TestMakeTogether(t *testing.T) {
	h := heap.New()
	var made [8][]int
	var full [8]int
	var all []func()
	for g := range made {
		all = append(all, func() {
			for range 20 {
				if n, e := h.Make(1, false); e == api.OK {
					made[g] = append(made[g], n)
				} else {
					full[g]++
				}
			}
		})
	}
	together(all...)
	var numbers []int
	refused := 0
	for g := range made {
		numbers = append(numbers, made[g]...)
		refused += full[g]
	}
	slices.Sort(numbers)
	if len(numbers) != api.MaxCells || len(slices.Compact(numbers)) != api.MaxCells || refused != 60 {
		t.Errorf("cells %v, %d refused", numbers, refused)
	}
}

// Several goroutines take and drop roots: none of it is lost.
func TestRootsTogether(t *testing.T) {
	h := made(t, 0)
	var all []func()
	for range 4 {
		all = append(all, func() {
			for range 1000 {
				h.Root(0)
			}
		}, func() {
			for left := 500; left > 0; {
				if h.Drop(0) == api.OK {
					left--
				}
			}
		})
	}
	together(all...)
	wantCounts(t, h, 2000)
}

// Several goroutines settle: each watched cell is told to one of them.
func TestSettleTogether(t *testing.T) {
	h := heap.New()
	var told [4][]int
	for range api.MaxCells {
		h.Make(0, true)
	}
	var all []func()
	for g := range told {
		all = append(all, func() { told[g] = h.Settle() })
	}
	together(all...)
	n := slices.Concat(told[0], told[1], told[2], told[3])
	slices.Sort(n)
	if len(n) != api.MaxCells || len(slices.Compact(n)) != api.MaxCells {
		t.Errorf("told %v", n)
	}
}

// Settle takes effect at one moment: nobody sees a cell that it has told and not yet dropped.
func TestSettleAtOnce(t *testing.T) {
	for range 50 {
		h := heap.New()
		for range api.MaxCells {
			h.Make(0, true)
		}
		until(func() { h.Settle() }, func() {
			first, _ := h.State(0)
			last, _ := h.State(api.MaxCells - 1)
			if first == 1 || last == 1 || first == 2 && last == 0 {
				t.Errorf("states %d and %d", first, last)
			}
		})
	}
}

// Calls of Same with the same heaps in both orders, and with one heap twice, all end.
func TestSameTogether(t *testing.T) {
	a, b, c := made(t, 1, 1), made(t, 1, 1), made(t, 1, 1)
	var all []func()
	for _, x := range [][2]*heap.Heap{{a, b}, {b, a}, {b, c}, {c, b}, {a, c}, {c, a}, {a, a}, {b, b}} {
		all = append(all, func() {
			for range 2000 {
				if !heap.Same(x[0], x[1]) {
					t.Error("equal heaps are not the same")
				}
				x[0].Copy()
			}
		})
	}
	together(all...)
}

// Same takes effect at one moment: two heaps that are different at each moment are never the same.
func TestSameAtOnce(t *testing.T) {
	var pair [2]*heap.Heap
	for i := range pair {
		pair[i] = made(t, 1, 0, 0)
		roots(t, pair[i], 0, 1, 2)
		pair[i].Settle()
		refers(t, pair[i], [3]int{0, 0, i})
	}
	until(func() {
		at := [2]int{0, 1}
		for i := range 20000 {
			// Each one goes to where the other one is not.
			at[i%2] = 3 - at[0] - at[1]
			pair[i%2].Set(0, 0, at[i%2], false)
		}
	}, func() {
		if heap.Same(pair[0], pair[1]) || heap.Same(pair[1], pair[0]) {
			t.Error("different heaps are the same")
		}
	})
}

// The functions that only look may run beside those that change.
func TestLookTogether(t *testing.T) {
	h := made(t, 2, 2, 12)
	roots(t, h, 0, 1)
	until(func() {
		for i := range 2000 {
			h.Set(0, i%2, 1, i%3 == 0)
			h.Set(1, 0, 0, false)
			h.Clear(0, i%2)
			h.Root(1)
			h.Drop(1)
			h.Next()
		}
	}, func() {
		h.Get(0, 0)
		h.Count(1)
		h.State(2)
		h.Lost()
		if l := h.Reached(); !slices.Equal(l, []int{0, 1}) && !slices.Equal(l, []int{0, 1, 2}) {
			t.Errorf("Reached: %v", l)
		}
		for _, l := range h.Cycles() {
			if !slices.Equal(l, []int{0, 1}) {
				t.Errorf("a cycle %v", l)
			}
		}
		if c := h.Copy(); c == nil {
			t.Error("no copy")
		}
	})
}
