package heap_test

import (
	"math"
	"testing"

	"quill/api"
	"quill/heap"
)

func TestHe1New(t *testing.T) {
	for _, cells := range []int{math.MinInt, -2, -1, 1<<24 + 1, 1 << 25, math.MaxInt} {
		if h, e := heap.New(cells); h != nil || e != api.ErrArg {
			t.Errorf("New(%d): %v, %d", cells, h, e)
		}
		for _, l := range [][]api.Object{nil, {bare(-1)}, {bare(5)}} {
			if h, e := heap.Load(l, cells); h != nil || e != api.ErrArg {
				t.Errorf("Load of %d, %d: %v, %d", len(l), cells, h, e)
			}
		}
	}
	for _, cells := range []int{0, 1, 2, 99, 1<<24 - 1, 1 << 24} {
		h, e := heap.New(cells)
		if h == nil || e != api.OK || h.Len() != 0 || h.Used() != 0 || len(h.All()) != 0 {
			t.Fatalf("New(%d): %v, %d", cells, h, e)
		}
		if h.Take(cells + 1) {
			t.Errorf("New(%d): there are more cells", cells)
		}
		if !h.Take(cells) || h.Used() != cells || h.Take(1) {
			t.Errorf("New(%d): there are fewer cells", cells)
		}
	}
}

func TestHe1Load(t *testing.T) {
	l := []api.Object{bare(-1, keyed("a", plain(number(1), "wec"))), array(2, "w", rows(2)...), bare(1), box("ab"), {Class: api.ClassFunction, Proto: 0, Fixed: true, Bound: []api.Value{object(7), null()}, Code: 3}}
	cells := 0
	for _, o := range l {
		cells += 1 + len(o.Props)
	}
	for n := range len(l) + 1 {
		h := made(t, 100, l[:n]...)
		if h.Len() != n || !sameAll(h.All(), l[:n]) {
			t.Errorf("Load of %d: %v", n, h.All())
		}
	}
	h := made(t, cells, l...)
	if h.Used() != cells || h.Take(1) {
		t.Errorf("Used: %d, not %d", h.Used(), cells)
	}
	for room := range cells {
		if h, e := heap.Load(l, room); h != nil || e != api.ErrFull {
			t.Errorf("Load, %d cells: %v, %d", room, h, e)
		}
	}
}

// The first error that one of the objects meets is told.
func TestHe1LoadFirst(t *testing.T) {
	bad, great := bare(-2), bare(-1, rows(9)...)
	for _, row := range []struct {
		l []api.Object
		e api.Errno
	}{
		{[]api.Object{bad}, api.ErrArg}, {[]api.Object{bare(-1), bad}, api.ErrArg}, {[]api.Object{bad, great}, api.ErrArg}, {[]api.Object{great, bad}, api.ErrFull}, {[]api.Object{great}, api.ErrFull}, {[]api.Object{bare(-1), great, bad}, api.ErrFull},
		{[]api.Object{bare(-1), bare(1)}, api.ErrArg}, {[]api.Object{bare(0)}, api.ErrArg}, {[]api.Object{bare(1), bare(-1)}, api.ErrArg}, {[]api.Object{bare(-1), bare(2), bare(-1)}, api.ErrArg},
		{[]api.Object{bare(-1, append(rows(9), rows(1)...)...)}, api.ErrArg}, // wrong ahead of great
	} {
		if h, e := heap.Load(row.l, 5); h != nil || e != row.e {
			t.Errorf("Load: %v, %d, not %d", h, e, row.e)
		}
	}
}

func TestHe1Object(t *testing.T) {
	l := []api.Object{
		bare(-1), bare(0, keyed("", plain(object(9), "")), keyed("g", pair(object(3), undefined(), "e"))),
		{Class: api.ClassNumber, Proto: 1, Prim: number(minus0()), Native: 1, Code: 2, Scope: 3, Bound: []api.Value{narrow("x"), number(none())}},
		{Class: api.ClassBoolean, Proto: -1, Prim: truth(true), Fixed: true, Native: math.MaxInt},
	}
	h := made(t, 99, l...)
	for i, want := range l {
		if o, e := h.Object(i); e != api.OK || !sameObject(o, want) {
			t.Errorf("Object(%d): %v, %d", i, o, e)
		}
	}
	for _, i := range []int{math.MinInt, -1, len(l), len(l) + 1, math.MaxInt} {
		if o, e := h.Object(i); e != api.ErrNone || !sameObject(o, api.Object{}) {
			t.Errorf("Object(%d): %v, %d", i, o, e)
		}
	}
	if h.Len() != len(l) || !sameAll(h.All(), l) {
		t.Errorf("All: %v", h.All())
	}
}

func TestHe1Alloc(t *testing.T) {
	h := made(t, 10)
	for i, want := range []int{1, 4, 5, 8} {
		o := []api.Object{bare(-1), bare(0, rows(2)...), box("abc"), array(0, "", keyed("a", plain(null(), "")))}[i]
		if n, e := h.Alloc(o); n != i || e != api.OK || h.Len() != i+1 || h.Used() != want {
			t.Errorf("Alloc: %d, %d; %d used, not %d", n, e, h.Used(), want)
		}
	}
	before := h.All()
	refused := func(o api.Object, want api.Errno) {
		t.Helper()
		if n, e := h.Alloc(o); n != 0 || e != want || h.Used() != 8 || !sameAll(h.All(), before) {
			t.Errorf("Alloc: %d, %d, not %d; %d used", n, e, want, h.Used())
		}
	}
	refused(bare(-1, rows(2)...), api.ErrFull)
	refused(bare(4), api.ErrArg)
	refused(bare(4, rows(9)...), api.ErrArg) // ahead of the lack of room
	if n, e := h.Alloc(bare(3, rows(1)...)); n != 4 || e != api.OK || h.Used() != 10 {
		t.Errorf("Alloc into the last cells: %d, %d", n, e)
	}
	if n, e := h.Alloc(bare(-1)); n != 0 || e != api.ErrFull {
		t.Errorf("Alloc without cells: %d, %d", n, e)
	}
}

func TestHe1Take(t *testing.T) {
	h := made(t, 10, bare(-1, rows(2)...))
	for _, row := range []struct {
		n    int
		ok   bool
		used int
	}{{0, true, 3}, {-1, false, 3}, {math.MinInt, false, 3}, {8, false, 3}, {math.MaxInt, false, 3}, {1, true, 4}, {7, false, 4}, {6, true, 10}, {1, false, 10}, {0, true, 10}, {-1, false, 10}} {
		if ok := h.Take(row.n); ok != row.ok || h.Used() != row.used {
			t.Errorf("Take(%d): %v, %d used, not %v, %d", row.n, ok, h.Used(), row.ok, row.used)
		}
	}
	if h.Len() != 1 {
		t.Errorf("Len: %d", h.Len())
	}
}

// A heap that New and Load did not give has nothing, and lets nothing be done.
func TestNotMade(t *testing.T) {
	for name, h := range map[string]*heap.Heap{"none": nil, "zero": {}, "new": new(heap.Heap)} {
		for range 2 { // it stays so
			for _, o := range []int{-1, 0, 1} {
				notMade(t, name, h, o)
			}
		}
	}
}

func notMade(t *testing.T, name string, h *heap.Heap, o int) {
	if x, e := h.Object(o); e != api.ErrArg || !sameObject(x, api.Object{}) {
		t.Errorf("%s: Object: %v, %d", name, x, e)
	}
	for _, x := range []api.Object{bare(-1), bare(5)} {
		if n, e := h.Alloc(x); n != 0 || e != api.ErrArg {
			t.Errorf("%s: Alloc: %d, %d", name, n, e)
		}
	}
	for _, key := range []string{wide("a"), "a"} {
		for _, p := range []api.Prop{{}, {Has: -1}} {
			if ok, e := h.Define(o, key, p); ok || e != api.ErrArg {
				t.Errorf("%s: Define: %v, %d", name, ok, e)
			}
		}
		if p, ok := h.Own(o, key); ok || !equal(p, api.Prop{}) {
			t.Errorf("%s: Own: %s, %v", name, shown(p), ok)
		}
		if p, n, ok := h.Property(o, key); ok || n != 0 || !equal(p, api.Prop{}) {
			t.Errorf("%s: Property: %s, %d, %v", name, shown(p), n, ok)
		}
		if h.CanPut(o, key) || h.Delete(o, key) {
			t.Errorf("%s: CanPut or Delete: true", name)
		}
	}
	h.Prevent(o)
	if h.Len() != 0 || len(h.All()) != 0 || h.Take(0) || h.Take(1) || h.Used() != 0 || len(h.Names(o)) != 0 || len(h.Keys(o)) != 0 || !h.Fixed(o) {
		t.Errorf("%s: it has something", name)
	}
}
