package heap_test

import (
	"testing"

	"quill/api"
	"quill/heap"
)

// turn does something drawn to a heap, and tells the object to which it was done.
func turn(h *heap.Heap, draw func() uint64) int {
	n := h.Len()
	o := int(draw() % uint64(n+1))
	key := pick(draw, pool()...)
	switch draw() % 10 {
	case 0, 1:
		h.Alloc(drawnObject(draw, n))
		return n
	case 2:
		h.Prevent(o)
	case 3, 4:
		h.Delete(o, key)
	case 5:
		h.Take(int(draw() % 2))
	case 6:
		h.Define(o, wide("length"), drawnProp(draw))
	default:
		h.Define(o, key, drawnProp(draw))
	}
	return o
}

// run does drawn things to heaps, and calls f before and behind each.
func run(t *testing.T, seed uint64, f func(h *heap.Heap) func(o int)) {
	draw := draws(seed)
	for range 120 {
		h := made(t, pick(draw, 20, 60, 200))
		for range 80 {
			after := f(h)
			after(turn(h, draw))
		}
	}
}

// Objects of a heap may be, whatever was done; and Load of All is the heap.
func TestHe7May(t *testing.T) {
	most := 0
	run(t, 71, func(h *heap.Heap) func(int) {
		return func(int) {
			all := h.All()
			l, e := heap.Load(all, h.Used())
			if e != api.OK || !sameAll(l.All(), all) {
				t.Fatalf("Load: %d", e)
			}
			most = max(most, h.Len())
		}
	})
	if most < 6 {
		t.Errorf("%d objects at most", most)
	}
}

// What is neither configurable nor writable stays; of an accessor, what is not configurable.
func TestHe7Stays(t *testing.T) {
	held := 0
	run(t, 72, func(h *heap.Heap) func(int) {
		before := h.All()
		return func(int) {
			for o, x := range before {
				for _, k := range x.Props {
					if k.P.Configurable || k.P.Writable {
						continue
					}
					held++
					if p, ok := h.Own(o, k.Key); !ok || !equal(p, k.P) {
						t.Fatalf("%q of %d: %s, not %s", k.Key, o, shown(p), shown(k.P))
					}
				}
			}
		}
	})
	if held < 1000 {
		t.Errorf("%d stayed", held)
	}
}

// What can't be extended gets no property.
func TestHe7Fixed(t *testing.T) {
	run(t, 73, func(h *heap.Heap) func(int) {
		before := h.All()
		return func(int) {
			for o, x := range before {
				if !x.Fixed {
					continue
				}
				if now, _ := h.Object(o); !now.Fixed || len(now.Props) > len(x.Props) {
					t.Fatalf("object %d: %s, not %s", o, shownTable(now.Props), shownTable(x.Props))
				}
			}
		}
	})
}

func TestHe7Lengths(t *testing.T) {
	held := 0
	run(t, 74, func(h *heap.Heap) func(int) {
		return func(o int) {
			x, _ := h.Object(o)
			if x.Class != api.ClassArray {
				return
			}
			length, _ := h.Own(o, wide("length"))
			for _, k := range x.Props {
				if i, ok := at(k.Key); ok {
					held++
					if length.Value.N <= float64(i) {
						t.Fatalf("length %v, index %d", length.Value.N, i)
					}
				}
			}
		}
	})
	if held < 200 {
		t.Errorf("%d indexes", held)
	}
}

func TestHe7Used(t *testing.T) {
	run(t, 75, func(h *heap.Heap) func(int) {
		used, n := h.Used(), h.Len()
		return func(int) {
			cells := 0
			for _, o := range h.All() {
				cells += 1 + len(o.Props)
			}
			if h.Used() < used || h.Used() < cells || h.Used() > 200 || h.Len() < n {
				t.Fatalf("%d used, of %d objects; %d, of %d", used, n, h.Used(), h.Len())
			}
		}
	})
}

// What is done to an object changes no other one.
func TestHe8Others(t *testing.T) {
	run(t, 76, func(h *heap.Heap) func(int) {
		before := h.All()
		return func(o int) {
			for i, x := range before {
				if now, e := h.Object(i); i != o && (e != api.OK || !sameObject(now, x)) {
					t.Fatalf("object %d, behind something was done to %d: %s, not %s", i, o, shownTable(now.Props), shownTable(x.Props))
				}
			}
		}
	})
}

// What takes cells for something else, or was removed, is not loaded; all else is.
func TestHe8Cells(t *testing.T) {
	h := made(t, 20, bare(-1, rows(5)...))
	h.Take(3)
	h.Delete(0, wide("2"))
	all := h.All()
	l, e := heap.Load(all, 5)
	if e != api.OK || h.Used() != 9 || l.Used() != 5 || !sameAll(l.All(), all) {
		t.Errorf("Load: %d", e)
	}
}
