package heap_test

import (
	"math"
	"testing"

	"quill/api"
	"quill/property"
)

func TestHe3Errors(t *testing.T) {
	h := made(t, 99, bare(-1), array(0, "w"), box("ab"))
	bad := api.Prop{Has: api.HasValue | api.HasGet}
	for _, o := range []int{math.MinInt, -1, 3, math.MaxInt} {
		for _, key := range []string{wide("a"), "a", wide("0"), wide("length")} {
			for _, p := range []api.Prop{{}, bad, only(number(-1))} {
				if ok, e := h.Define(o, key, p); ok || e != api.ErrNone {
					t.Errorf("Define(%d, %q, %s): %v, %d", o, key, shown(p), ok, e)
				}
			}
		}
	}
	for o := range 3 {
		for _, key := range []string{"a", "", "0", "length", "4294967295"} {
			for _, p := range []api.Prop{bad, {Has: -1}, {Has: 64}, {Writable: true}, only(text("a")), only(object(-1)), only(number(other())), {Has: api.HasGet, Get: number(1)}, {Has: api.HasValue, Value: api.Value{Kind: api.KindEmpty}}, {Has: api.HasValue | api.HasGet, Value: number(-1)}} {
				defines(t, h, o, key, p, false, api.ErrProp)
			}
		}
	}
	if h.Used() != 4 || len(h.Names(0)) != 0 {
		t.Errorf("%d used", h.Used())
	}
}

// What is defined anew is full, and stands behind all.
func TestHe3New(t *testing.T) {
	f := object(3)
	for _, class := range []int{api.ClassObject, api.ClassFunction, api.ClassError, api.ClassArguments, api.ClassNumber} {
		h := made(t, 99, classed(class))
		var want []api.Keyed
		for i, row := range []struct{ p, full api.Prop }{
			{api.Prop{}, plain(undefined(), "")}, {only(number(1)), plain(number(1), "")}, {api.Prop{Has: api.HasWritable, Writable: true}, plain(undefined(), "w")}, {api.Prop{Has: api.HasEnumerable, Enumerable: true}, plain(undefined(), "e")}, {api.Prop{Has: api.HasConfigurable | api.HasValue, Configurable: true, Value: f}, plain(f, "c")},
			{api.Prop{Has: api.HasGet, Get: f}, pair(f, undefined(), "")}, {api.Prop{Has: api.HasSet}, pair(undefined(), undefined(), "")}, {api.Prop{Has: api.HasSet | api.HasEnumerable, Set: f, Enumerable: true}, pair(undefined(), f, "e")}, {pair(f, f, "ec"), pair(f, f, "ec")}, {plain(null(), "wec"), plain(null(), "wec")}, {plain(number(minus0()), "we"), plain(number(minus0()), "we")},
		} {
			key := []string{"b", "a", "", "10", "9", "length", "01", "0", "z", "4294967295", "y"}[i]
			defines(t, h, 0, key, row.p, true, api.OK)
			want = append(want, keyed(key, row.full))
			has(t, h, 0, want...)
			if h.Used() != 1+len(want) {
				t.Errorf("%d used, not %d", h.Used(), 1+len(want))
			}
		}
	}
}

// What can't be extended, and no cells.
func TestHe3NotNew(t *testing.T) {
	closed := bare(-1, keyed("a", plain(null(), "wec")))
	closed.Fixed = true
	h := made(t, 5, closed, bare(-1, keyed("a", plain(null(), "wec"))))
	defines(t, h, 0, "b", only(null()), false, api.OK)
	defines(t, h, 0, "a", only(number(1)), true, api.OK)
	defines(t, h, 1, "b", only(null()), true, api.OK)
	if h.Used() != 5 {
		t.Fatalf("%d used", h.Used())
	}
	defines(t, h, 1, "c", only(null()), false, api.ErrFull)
	defines(t, h, 1, "c", api.Prop{Has: -1}, false, api.ErrProp)
	defines(t, h, 0, "c", only(null()), false, api.OK) // it can't be extended: cells are not asked for
	defines(t, h, 1, "a", only(number(2)), true, api.OK)
	defines(t, h, 1, "b", only(number(3)), false, api.OK)
	if !h.Delete(1, wide("a")) {
		t.Error("Delete")
	}
	defines(t, h, 1, "c", only(null()), false, api.ErrFull) // nothing was given back
	defines(t, h, 1, "a", only(null()), false, api.ErrFull)
	has(t, h, 0, keyed("a", plain(number(1), "wec")))
	has(t, h, 1, keyed("b", plain(null(), "")))
	if h.Used() != 5 {
		t.Errorf("%d used", h.Used())
	}
}

// What is there becomes what layer 12's Change says, where it stands.
func TestHe3Change(t *testing.T) {
	f := object(2)
	olds := []api.Prop{plain(number(1), ""), plain(number(1), "w"), plain(number(1), "e"), plain(number(1), "c"), plain(number(1), "wec"), pair(f, undefined(), ""), pair(f, undefined(), "ec"), pair(undefined(), f, "c")}
	news := []api.Prop{{}, only(number(1)), only(number(2)), {Has: api.HasWritable}, {Has: api.HasWritable, Writable: true}, {Has: api.HasEnumerable}, {Has: api.HasEnumerable, Enumerable: true}, {Has: api.HasConfigurable}, {Has: api.HasConfigurable, Configurable: true}, {Has: api.HasGet, Get: f}, {Has: api.HasGet}, {Has: api.HasSet}, {Has: api.HasSet, Set: f}, plain(null(), "we"), pair(f, f, "e")}
	for _, n := range []int{0, 3, 20} {
		for _, old := range olds {
			for _, p := range news {
				l := append(rows(n), keyed("a", old), keyed("b", plain(null(), "")))
				o := bare(-1, l...)
				o.Fixed = n == 3 // which counts not here
				h := made(t, 99, o)
				q, ok := property.Change(old, p)
				defines(t, h, 0, "a", p, ok, api.OK)
				if ok {
					l[n].P = q
				}
				has(t, h, 0, l...)
				if h.Used() != 1+len(l) {
					t.Errorf("%d used", h.Used())
				}
			}
		}
	}
}

// Of a String object's virtual properties nothing is kept.
func TestHe3String(t *testing.T) {
	h := made(t, 4, box("ab", keyed("x", plain(null(), "wec"))))
	ok := func(key string, p api.Prop) { defines(t, h, 0, key, p, true, api.OK) }
	no := func(key string, p api.Prop) { defines(t, h, 0, key, p, false, api.OK) }
	for i, unit := range []string{"a", "b"} {
		key := []string{"0", "1"}[i]
		ok(key, api.Prop{})
		ok(key, only(narrow(unit)))
		ok(key, plain(narrow(unit), "e"))
		ok(key, api.Prop{Has: api.HasEnumerable, Enumerable: true})
		ok(key, api.Prop{Has: api.HasWritable})
		no(key, only(narrow("c")))
		no(key, only(narrow("ab")))
		no(key, only(text("")))
		no(key, only(undefined()))
		no(key, api.Prop{Has: api.HasWritable, Writable: true})
		no(key, api.Prop{Has: api.HasConfigurable, Configurable: true})
		no(key, api.Prop{Has: api.HasEnumerable})
		no(key, api.Prop{Has: api.HasGet})
		no(key, plain(narrow(unit), ""))
	}
	ok("length", api.Prop{})
	ok("length", only(number(2)))
	ok("length", plain(number(2), ""))
	no("length", only(number(1)))
	no("length", only(number(3)))
	no("length", only(narrow("2"))) // it is no array's
	no("length", only(number(-1)))
	no("length", only(object(0)))
	no("length", plain(number(2), "w"))
	no("length", plain(number(2), "e"))
	no("length", api.Prop{Has: api.HasSet})
	has(t, h, 0, keyed("x", plain(null(), "wec")))
	ok("2", only(null()))
	has(t, h, 0, keyed("x", plain(null(), "wec")), keyed("2", plain(null(), "")))
	owns(t, h, 0, "length", plain(number(2), ""))
	h.Take(1)
	ok("0", only(narrow("a"))) // without cells, too
	h.Prevent(0)
	ok("1", only(narrow("b")))
	no("3", only(narrow("b")))
	if h.Used() != 4 {
		t.Errorf("%d used", h.Used())
	}
}

// Only arrays have an array's length.
func TestHe3OnlyArrays(t *testing.T) {
	for _, class := range []int{api.ClassObject, api.ClassFunction, api.ClassArguments, api.ClassError} {
		o := classed(class)
		o.Props = []api.Keyed{keyed("length", plain(number(2), "w")), keyed("0", plain(null(), "c")), keyed("1", plain(null(), "c"))}
		h := made(t, 99, o)
		defines(t, h, 0, "length", only(number(-1)), true, api.OK)
		defines(t, h, 0, "length", only(object(5)), true, api.OK)
		defines(t, h, 0, "length", only(number(0)), true, api.OK)
		defines(t, h, 0, "7", only(null()), true, api.OK)
		has(t, h, 0, keyed("length", plain(number(0), "w")), keyed("0", plain(null(), "c")), keyed("1", plain(null(), "c")), keyed("7", plain(null(), "")))
	}
}
