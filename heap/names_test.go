package heap_test

import (
	"math"
	"slices"
	"testing"

	"quill/api"
	"quill/heap"
)

func names(t *testing.T, h *heap.Heap, o int, want ...string) {
	t.Helper()
	if l := h.Names(o); !slices.Equal(l, wides(want...)) {
		t.Errorf("Names(%d): %q, not %q", o, l, want)
	}
}

func keys(t *testing.T, h *heap.Heap, o int, want ...string) {
	t.Helper()
	if l := h.Keys(o); !slices.Equal(l, wides(want...)) {
		t.Errorf("Keys(%d): %q, not %q", o, l, want)
	}
}

// deletes holds what Delete answers, and that the property is gone, or not.
func deletes(t *testing.T, h *heap.Heap, o int, key string, want bool) {
	t.Helper()
	used := h.Used()
	if ok := h.Delete(o, wide(key)); ok != want || h.Used() != used {
		t.Errorf("Delete(%d, %q): %v", o, key, ok)
	}
	if _, there := h.Own(o, wide(key)); there == want {
		t.Errorf("Delete(%d, %q): there: %v", o, key, there)
	}
}

func TestHe6Delete(t *testing.T) {
	h := made(t, 99,
		bare(-1, keyed("a", plain(null(), "c")), keyed("b", plain(null(), "we")), keyed("c", pair(object(0), object(0), "c")), keyed("d", pair(undefined(), undefined(), "e")), keyed("", plain(null(), "wec"))),
		bare(0, keyed("z", plain(null(), "c"))), array(3, "w", rows(3)...), box("ab", keyed("2", plain(null(), "c")), keyed("3", plain(null(), ""))),
	)
	deletes(t, h, 1, "a", true) // its prototype's stays
	owns(t, h, 0, "a", plain(null(), "c"))
	for _, row := range []struct {
		key string
		ok  bool
	}{{"a", true}, {"b", false}, {"c", true}, {"d", false}, {"", true}, {"a", true}, {"x", true}, {"0", true}, {"length", true}} {
		deletes(t, h, 0, row.key, row.ok)
	}
	has(t, h, 0, keyed("b", plain(null(), "we")), keyed("d", pair(undefined(), undefined(), "e")))
	deletes(t, h, 2, "2", true)
	deletes(t, h, 2, "length", false)
	has(t, h, 2, array(3, "w", rows(2)...).Props...) // the length stays
	for key, ok := range map[string]bool{"0": false, "1": false, "length": false, "2": true, "3": false, "4": true, "00": true} {
		deletes(t, h, 3, key, ok)
	}
	h.Prevent(1)
	deletes(t, h, 1, "z", true)
	for _, o := range []int{math.MinInt, -1, 4, math.MaxInt} {
		deletes(t, h, o, "a", true)
	}
}

// What is defined again stands behind all.
func TestHe6Again(t *testing.T) {
	for _, n := range []int{3, 8, 9, 10, 30} {
		h := made(t, 999, bare(-1, rows(n)...))
		want := rows(n)
		for i := range n {
			first := want[0]
			if want = want[1:]; !h.Delete(0, first.Key) {
				t.Errorf("Delete of %q", first.Key)
			}
			has(t, h, 0, want...)
			if i%3 == 0 {
				continue
			}
			if ok, e := h.Define(0, first.Key, first.P); !ok || e != api.OK {
				t.Errorf("Define: %v, %d", ok, e)
			}
			want = append(want, first)
			has(t, h, 0, want...)
		}
	}
}

func TestHe6Names(t *testing.T) {
	p, q := plain(null(), ""), plain(null(), "e")
	h := made(t, 99,
		bare(-1), bare(0, keyed("b", p), keyed("10", q), keyed("a", pair(undefined(), undefined(), "")), keyed("", p), keyed("9", q)), bare(1),
		box("ab", keyed("x", p), keyed("2", q), keyed("-1", p)), box(""), box("0123456789a", keyed("z", p)), array(2, "", keyed("1", p), keyed("a", q)),
	)
	names(t, h, 0)
	names(t, h, 1, "b", "10", "a", "", "9")
	names(t, h, 2)
	names(t, h, 3, "0", "1", "length", "x", "2", "-1")
	names(t, h, 4, "length")
	names(t, h, 5, "0", "1", "2", "3", "4", "5", "6", "7", "8", "9", "10", "length", "z")
	names(t, h, 6, "length", "1", "a")
	for _, o := range []int{math.MinInt, -1, 7, math.MaxInt} {
		names(t, h, o)
		keys(t, h, o)
	}
}

func TestHe6Keys(t *testing.T) {
	p, q, g := plain(null(), "wc"), plain(null(), "e"), pair(undefined(), undefined(), "e")
	h := made(t, 99,
		bare(-1, keyed("a", q), keyed("b", q), keyed("c", q), keyed("d", p), keyed("0", q), keyed("length", q)),
		bare(0, keyed("e", g), keyed("b", p), keyed("a", q), keyed("d", q)),
		bare(1, keyed("f", p), keyed("c", q), keyed("e", p), keyed("g", q)),
		api.Object{Class: api.ClassString, Proto: 2, Prim: narrow("x"), Props: []api.Keyed{keyed("g", p), keyed("h", q)}},
		bare(3), array(2, "w", keyed("1", q), keyed("0", q)), box("ab"),
	)
	keys(t, h, 0, "a", "b", "c", "0", "length")
	keys(t, h, 1, "e", "a", "d", "c", "0", "length") // b is hidden
	keys(t, h, 2, "c", "g", "a", "d", "0", "length") // e, too
	keys(t, h, 3, "0", "h", "c", "a", "d")           // length and g, too
	keys(t, h, 4, "0", "h", "c", "a", "d")           // that of an object without any
	keys(t, h, 5, "1", "0")                          // its length is not told
	keys(t, h, 6, "0", "1")                          // nor that of a text
	deletes(t, h, 1, "b", true)
	keys(t, h, 1, "e", "a", "d", "b", "c", "0", "length")
	deletes(t, h, 1, "a", false)
	defines(t, h, 2, "f", api.Prop{Has: api.HasEnumerable, Enumerable: true}, true, api.OK)
	keys(t, h, 2, "f", "c", "g", "a", "d", "b", "0", "length")
}

func TestHe6Prevent(t *testing.T) {
	closed := bare(-1)
	closed.Fixed = true
	h := made(t, 99, bare(-1, keyed("a", plain(null(), "wec"))), bare(0), array(0, "w"), closed)
	fixed := func(want ...bool) {
		t.Helper()
		for o, f := range want {
			if h.Fixed(o) != f {
				t.Errorf("Fixed(%d): %v", o, !f)
			}
			if x, _ := h.Object(o); x.Fixed != f {
				t.Errorf("Object(%d): %v", o, !f)
			}
		}
	}
	fixed(false, false, false, true)
	for _, o := range []int{math.MinInt, -1, 4, math.MaxInt} {
		h.Prevent(o)
		if !h.Fixed(o) {
			t.Errorf("Fixed(%d)", o)
		}
	}
	fixed(false, false, false, true)
	h.Prevent(0)
	fixed(true, false, false, true)
	defines(t, h, 0, "b", only(null()), false, api.OK)
	defines(t, h, 1, "b", only(null()), true, api.OK)
	defines(t, h, 0, "a", only(number(1)), true, api.OK)
	deletes(t, h, 0, "a", true)
	defines(t, h, 0, "a", only(number(1)), false, api.OK)
	h.Prevent(0)
	h.Prevent(2)
	fixed(true, false, true, true)
	defines(t, h, 2, "0", only(null()), false, api.OK)
	owns(t, h, 2, "length", plain(number(0), "w"))
	defines(t, h, 3, "0", only(null()), false, api.OK)
}
