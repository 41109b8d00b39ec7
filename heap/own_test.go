package heap_test

import (
	"math"
	"slices"
	"testing"

	"quill/api"
	"quill/heap"
	"quill/ustr"
)

// owns holds an own property; want without any part: there is none.
func owns(t *testing.T, h *heap.Heap, o int, key string, want api.Prop) {
	t.Helper()
	if p, ok := h.Own(o, wide(key)); ok != (want.Has != 0) || !equal(p, want) {
		t.Errorf("Own(%d, %q): %s, %v, not %s", o, key, shown(p), ok, shown(want))
	}
}

// finds holds a property, and who has it.
func finds(t *testing.T, h *heap.Heap, o int, key string, want api.Prop, owner int) {
	t.Helper()
	if p, n, ok := h.Property(o, wide(key)); ok != (want.Has != 0) || n != owner || !equal(p, want) {
		t.Errorf("Property(%d, %q): %s, %d, %v, not %s, %d", o, key, shown(p), n, ok, shown(want), owner)
	}
}

func TestHe2Own(t *testing.T) {
	a, b, c := plain(number(1), "w"), pair(object(1), undefined(), "ec"), plain(text(""), "")
	h := made(t, 99, bare(-1, keyed("a", a), keyed("", b), keyed("toString", c)), bare(0, keyed("b", c)), array(2, "w", keyed("1", a)))
	owns(t, h, 0, "a", a)
	owns(t, h, 0, "", b)
	owns(t, h, 0, "toString", c)
	owns(t, h, 2, "1", a)
	owns(t, h, 2, "length", plain(number(2), "w"))
	for _, key := range []string{"A", "b", "aa", "0", "length", "\x00", "toString ", "tostring", "__proto__"} {
		owns(t, h, 0, key, api.Prop{})
	}
	owns(t, h, 1, "b", c)
	owns(t, h, 1, "a", api.Prop{}) // its prototype's
	owns(t, h, 2, "0", api.Prop{})
	owns(t, h, 2, "01", api.Prop{})
	for _, o := range []int{math.MinInt, -1, 3, math.MaxInt} {
		owns(t, h, o, "a", api.Prop{})
		finds(t, h, o, "a", api.Prop{}, 0)
		if h.CanPut(o, wide("a")) {
			t.Errorf("CanPut(%d)", o)
		}
	}
}

// A table of more than a few, at each size.
func TestHe2OwnMany(t *testing.T) {
	for n := range 40 {
		l := rows(n)
		h := made(t, 99, bare(-1, l...))
		for _, k := range l {
			if p, ok := h.Own(0, k.Key); !ok || !equal(p, k.P) {
				t.Errorf("%d: Own(%q): %s, %v", n, k.Key, shown(p), ok)
			}
		}
		owns(t, h, 0, "a", api.Prop{})
		owns(t, h, 0, "40", api.Prop{})
	}
}

func TestHe2String(t *testing.T) {
	long := box("0123456789ab", keyed("a", plain(null(), "wec")), keyed("12", plain(null(), "w")))
	h := made(t, 99, box("ab"), box("", keyed("0", plain(null(), "c"))), long, api.Object{Class: api.ClassString, Proto: 0, Prim: text(ustr.Make([]uint16{0xD83D, 0xDE00, 0xFFFF}))})
	unit := func(b string) api.Prop { return plain(narrow(b), "e") }
	owns(t, h, 0, "0", unit("a"))
	owns(t, h, 0, "1", unit("b"))
	owns(t, h, 0, "length", plain(number(2), ""))
	for _, key := range []string{"2", "00", "01", "-0", "-1", "0.5", "0 ", "4294967294", "4294967295", "4294967296", "", "a", "len"} {
		owns(t, h, 0, key, api.Prop{})
	}
	owns(t, h, 1, "length", plain(number(0), ""))
	owns(t, h, 1, "0", plain(null(), "c"))
	owns(t, h, 2, "9", unit("9"))
	owns(t, h, 2, "11", unit("b"))
	owns(t, h, 2, "12", plain(null(), "w"))
	owns(t, h, 2, "13", api.Prop{})
	owns(t, h, 2, "a", plain(null(), "wec"))
	owns(t, h, 2, "length", plain(number(12), ""))
	for i, u := range []uint16{0xD83D, 0xDE00, 0xFFFF} {
		owns(t, h, 3, []string{"0", "1", "2"}[i], plain(text(ustr.Make([]uint16{u})), "e"))
	}
	finds(t, h, 3, "1", plain(text(ustr.Make([]uint16{0xDE00})), "e"), 3)
	finds(t, h, 3, "length", plain(number(3), ""), 3)
}

// Only String objects have properties that stand in no table.
func TestHe2OnlyStrings(t *testing.T) {
	for _, class := range classes() {
		h := made(t, 99, classed(class))
		if _, ok := h.Own(0, wide("length")); ok != (class == api.ClassString || class == api.ClassArray) {
			t.Errorf("class %d: length: %v", class, ok)
		}
		if _, ok := h.Own(0, wide("0")); ok != (class == api.ClassString) {
			t.Errorf("class %d: 0: %v", class, ok)
		}
	}
}

func TestHe2Property(t *testing.T) {
	a, b, c := plain(number(1), "w"), pair(object(1), undefined(), "ec"), plain(text(""), "")
	h := made(t, 99,
		bare(-1, keyed("a", a), keyed("b", a), keyed("c", a), keyed("0", a), keyed("length", b)),
		box("x"), // of another chain
		bare(0, keyed("b", b), keyed("c", b)),
		bare(2, keyed("c", c)),
		api.Object{Class: api.ClassString, Proto: 2, Prim: narrow("y"), Props: []api.Keyed{keyed("z", c)}},
		bare(4),
	)
	finds(t, h, 3, "c", c, 3)
	finds(t, h, 3, "b", b, 2)
	finds(t, h, 3, "a", a, 0)
	finds(t, h, 3, "0", a, 0)
	finds(t, h, 3, "z", api.Prop{}, 0)
	finds(t, h, 3, "", api.Prop{}, 0)
	finds(t, h, 2, "c", b, 2)
	finds(t, h, 0, "c", a, 0)
	finds(t, h, 1, "a", api.Prop{}, 0)
	finds(t, h, 5, "0", plain(narrow("y"), "e"), 4)
	finds(t, h, 5, "length", plain(number(1), ""), 4)
	finds(t, h, 5, "1", api.Prop{}, 0)
	finds(t, h, 5, "z", c, 4)
	finds(t, h, 5, "b", b, 2)
	finds(t, h, 5, "a", a, 0)
}

// CanPut by the clause: each sort of an own property, of an inherited one, and of none, of
// objects that can be extended and not.
func TestHe2CanPut(t *testing.T) {
	setter, getter := pair(undefined(), object(0), ""), pair(object(0), undefined(), "ec")
	written, fixed := plain(null(), "w"), plain(null(), "ec")
	both := func(p api.Prop, o api.Object) api.Object {
		o.Props = append(o.Props, keyed("a", p))
		return o
	}
	closed := func(o api.Object) api.Object {
		o.Fixed = true
		return o
	}
	for _, row := range []struct {
		name string
		l    []api.Object
		want bool
	}{
		{"own setter", []api.Object{both(setter, bare(-1))}, true}, {"own getter", []api.Object{both(getter, bare(-1))}, false}, {"own, both", []api.Object{both(pair(object(1), object(1), ""), bare(-1))}, true}, {"own accessor of nothing", []api.Object{both(pair(undefined(), undefined(), "c"), bare(-1))}, false},
		{"own setter, fixed", []api.Object{closed(both(setter, bare(-1)))}, true}, {"own getter, fixed", []api.Object{closed(both(getter, bare(-1)))}, false},
		{"own, writable", []api.Object{both(written, bare(-1))}, true}, {"own, not writable", []api.Object{both(fixed, bare(-1))}, false}, {"own, writable, fixed", []api.Object{closed(both(written, bare(-1)))}, true}, {"own, not writable, fixed", []api.Object{closed(both(fixed, bare(-1)))}, false},
		{"own, writable, above another", []api.Object{both(fixed, bare(-1)), both(written, bare(0))}, true}, {"own, not writable, above another", []api.Object{both(written, bare(-1)), both(fixed, bare(0))}, false},
		{"none", []api.Object{bare(-1)}, true}, {"none, fixed", []api.Object{closed(bare(-1))}, false}, {"none up", []api.Object{bare(-1), bare(0)}, true}, {"none up, fixed", []api.Object{bare(-1), closed(bare(0))}, false}, {"none up, the prototype fixed", []api.Object{closed(bare(-1)), bare(0)}, true},
		{"inherited setter", []api.Object{both(setter, bare(-1)), bare(0)}, true}, {"inherited setter, fixed", []api.Object{both(setter, bare(-1)), closed(bare(0))}, true}, {"inherited getter", []api.Object{both(getter, bare(-1)), bare(0)}, false}, {"inherited getter, fixed", []api.Object{both(getter, bare(-1)), closed(bare(0))}, false},
		{"inherited, writable", []api.Object{both(written, bare(-1)), bare(0)}, true}, {"inherited, writable, fixed", []api.Object{both(written, bare(-1)), closed(bare(0))}, false}, {"inherited, not writable", []api.Object{both(fixed, bare(-1)), bare(0)}, false}, {"inherited, not writable, fixed", []api.Object{both(fixed, bare(-1)), closed(bare(0))}, false},
		{"inherited, the prototype fixed", []api.Object{closed(both(written, bare(-1))), bare(0)}, true},
		{"from far", []api.Object{both(written, bare(-1)), bare(0), bare(1)}, true}, {"from far, fixed", []api.Object{both(written, bare(-1)), bare(0), closed(bare(1))}, false}, {"from far, another ahead", []api.Object{both(written, bare(-1)), both(fixed, bare(0)), bare(1)}, false}, {"from far, one between fixed", []api.Object{both(written, bare(-1)), closed(bare(0)), bare(1)}, true},
	} {
		h := made(t, 99, row.l...)
		if ok := h.CanPut(len(row.l)-1, wide("a")); ok != row.want {
			t.Errorf("CanPut, %s: %v", row.name, ok)
		}
	}
}

func TestHe2CanPutString(t *testing.T) {
	h := made(t, 99, box("ab"), bare(0), bare(-1))
	for _, row := range []struct {
		o    int
		key  string
		want bool
	}{{0, "0", false}, {0, "1", false}, {0, "2", true}, {0, "length", false}, {0, "x", true}, {1, "1", false}, {1, "2", true}, {1, "length", false}, {2, "0", true}, {2, "length", true}} {
		if ok := h.CanPut(row.o, wide(row.key)); ok != row.want {
			t.Errorf("CanPut(%d, %q): %v", row.o, row.key, ok)
		}
	}
}

// A key of an odd number of bytes is nobody's.
func TestOddKeys(t *testing.T) {
	closed := bare(-1)
	closed.Fixed = true
	h := made(t, 99, array(5, "w", rows(2)...), box("ab"), bare(1, keyed("a", plain(null(), "")), keyed("", plain(null(), ""))), closed)
	before := h.All()
	for _, key := range []string{"a", "\x00", "0", "\x000\x00", "1", wide("length") + "\x00", wide("a") + "a", "\x00\x00\x00"} {
		for o := range 5 {
			if p, ok := h.Own(o, key); ok || !equal(p, api.Prop{}) {
				t.Errorf("Own(%d, %q): %s, %v", o, key, shown(p), ok)
			}
			if p, n, ok := h.Property(o, key); ok || n != 0 || !equal(p, api.Prop{}) {
				t.Errorf("Property(%d, %q): %s, %d, %v", o, key, shown(p), n, ok)
			}
			if ok := h.CanPut(o, key); ok != (o < 3) {
				t.Errorf("CanPut(%d, %q): %v", o, key, ok)
			}
			if !h.Delete(o, key) {
				t.Errorf("Delete(%d, %q)", o, key)
			}
			want := api.ErrArg
			if o == 4 {
				want = api.ErrNone
			}
			for _, p := range []api.Prop{{}, only(number(-1)), {Has: -1}} {
				if ok, e := h.Define(o, key, p); ok || e != want {
					t.Errorf("Define(%d, %q): %v, %d", o, key, ok, e)
				}
			}
		}
	}
	if !sameAll(h.All(), before) || h.Used() != 9 || slices.ContainsFunc(h.Names(0), func(key string) bool { return len(key)%2 != 0 }) {
		t.Error("something turned")
	}
}
