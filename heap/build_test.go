package heap_test

import (
	"math"
	"slices"
	"strconv"
	"strings"
	"testing"

	"quill/api"
	"quill/heap"
	"quill/ustr"
)

// Values, descriptors and objects are built here part by part, so that they hang on
// nothing that is tested.

func undefined() api.Value       { return api.Value{} }
func null() api.Value            { return api.Value{Kind: api.KindNull} }
func truth(b bool) api.Value     { return api.Value{Kind: api.KindBool, B: b} }
func number(x float64) api.Value { return api.Value{Kind: api.KindNumber, N: x} }
func text(s string) api.Value    { return api.Value{Kind: api.KindString, S: s} }
func narrow(b string) api.Value  { return text(wide(b)) }
func object(o int) api.Value     { return api.Value{Kind: api.KindObject, O: o} }
func wide(b string) string       { return ustr.Wide(b) }

// none is the NaN that may be; other has other bits.
func none() float64   { return math.Float64frombits(0x7FF8000000000000) }
func other() float64  { return math.Float64frombits(0x7FF8000000000001) }
func minus0() float64 { return math.Copysign(0, -1) }

const (
	fullData     = api.HasValue | api.HasWritable | api.HasEnumerable | api.HasConfigurable
	fullAccessor = api.HasGet | api.HasSet | api.HasEnumerable | api.HasConfigurable
)

// plain is a full descriptor of data; marks: which of w, e, c are so.
func plain(v api.Value, marks string) api.Prop {
	return api.Prop{Has: fullData, Value: v, Writable: strings.Contains(marks, "w"), Enumerable: strings.Contains(marks, "e"), Configurable: strings.Contains(marks, "c")}
}

// pair is a full descriptor of an accessor.
func pair(get, set api.Value, marks string) api.Prop {
	p := plain(undefined(), marks)
	p.Has, p.Get, p.Set = fullAccessor, get, set
	return p
}

// only is a descriptor that has a value and nothing else.
func only(v api.Value) api.Prop { return api.Prop{Has: api.HasValue, Value: v} }

// keyed is a property of a key in bytes.
func keyed(key string, p api.Prop) api.Keyed { return api.Keyed{Key: wide(key), P: p} }

// wides are the texts of keys in bytes.
func wides(keys ...string) []string {
	var l []string
	for _, key := range keys {
		l = append(l, wide(key))
	}
	return l
}

// bare is an extensible object of ClassObject.
func bare(proto int, l ...api.Keyed) api.Object {
	return api.Object{Class: api.ClassObject, Proto: proto, Props: l}
}

// array is one with a length that has these marks (w or nothing), and more properties.
func array(length float64, marks string, l ...api.Keyed) api.Object {
	return api.Object{Class: api.ClassArray, Proto: -1, Props: append([]api.Keyed{keyed("length", plain(number(length), marks))}, l...)}
}

// rows are an array's first elements, w e c each, their places as values.
func rows(n int) []api.Keyed {
	var l []api.Keyed
	for i := range n {
		l = append(l, keyed(strconv.Itoa(i), plain(number(float64(i)), "wec")))
	}
	return l
}

// box is a String object.
func box(b string, l ...api.Keyed) api.Object {
	return api.Object{Class: api.ClassString, Proto: -1, Prim: narrow(b), Props: l}
}

// made is a heap of these objects.
func made(t *testing.T, cells int, l ...api.Object) *heap.Heap {
	t.Helper()
	h, e := heap.Load(l, cells)
	if e != api.OK || h == nil {
		t.Fatalf("Load: %d", e)
	}
	return h
}

// alike tells whether two values are the same, part by part, to the bit.
func alike(a, b api.Value) bool {
	return a.Kind == b.Kind && a.B == b.B && math.Float64bits(a.N) == math.Float64bits(b.N) && a.S == b.S && a.O == b.O
}

// equal tells whether two descriptors are the same, part by part, to the bit.
func equal(a, b api.Prop) bool {
	return a.Has == b.Has && alike(a.Value, b.Value) && alike(a.Get, b.Get) && alike(a.Set, b.Set) && a.Writable == b.Writable && a.Enumerable == b.Enumerable && a.Configurable == b.Configurable
}

// sameObject tells whether two objects are the same.
func sameObject(a, b api.Object) bool {
	return a.Class == b.Class && a.Proto == b.Proto && a.Fixed == b.Fixed && alike(a.Prim, b.Prim) && a.Native == b.Native && a.Code == b.Code && a.Scope == b.Scope && slices.EqualFunc(a.Bound, b.Bound, alike) && sameTable(a.Props, b.Props)
}

func sameTable(a, b []api.Keyed) bool {
	return slices.EqualFunc(a, b, func(x, y api.Keyed) bool { return x.Key == y.Key && equal(x.P, y.P) })
}

func sameAll(a, b []api.Object) bool { return slices.EqualFunc(a, b, sameObject) }

// has holds an object's whole table.
func has(t *testing.T, h *heap.Heap, o int, want ...api.Keyed) {
	t.Helper()
	x, e := h.Object(o)
	if e != api.OK || !sameTable(x.Props, want) {
		t.Errorf("object %d: %s, %d, not %s", o, shownTable(x.Props), e, shownTable(want))
	}
}

// defines holds what Define answers.
func defines(t *testing.T, h *heap.Heap, o int, key string, p api.Prop, want bool, errno api.Errno) {
	t.Helper()
	if ok, e := h.Define(o, wide(key), p); ok != want || e != errno {
		t.Errorf("Define(%d, %q, %s): %v, %d, not %v, %d", o, key, shown(p), ok, e, want, errno)
	}
}

// shown is a descriptor for a fault's text.
func shown(p api.Prop) string {
	l := []string{"bits " + strconv.Itoa(p.Has)}
	for _, part := range []struct {
		name string
		v    api.Value
	}{{"value", p.Value}, {"get", p.Get}, {"set", p.Set}} {
		if !alike(part.v, undefined()) {
			l = append(l, part.name+" "+named(part.v))
		}
	}
	for _, part := range []struct {
		name string
		b    bool
	}{{"writable", p.Writable}, {"enumerable", p.Enumerable}, {"configurable", p.Configurable}} {
		if part.b {
			l = append(l, part.name)
		}
	}
	return "{" + strings.Join(l, ", ") + "}"
}

func shownTable(l []api.Keyed) string {
	var parts []string
	for _, k := range l {
		parts = append(parts, strconv.Quote(ustr.Encode(k.Key))+": "+shown(k.P))
	}
	return "[" + strings.Join(parts, ", ") + "]"
}

func named(v api.Value) string {
	switch v.Kind {
	case api.KindNumber:
		return strconv.FormatFloat(v.N, 'g', -1, 64)
	case api.KindString:
		return strconv.Quote(ustr.Encode(v.S))
	case api.KindObject:
		return "object " + strconv.Itoa(v.O)
	}
	return "of kind " + strconv.Itoa(v.Kind)
}

// draws tells numbers one after the other that look like chance, the same each time.
func draws(seed uint64) func() uint64 {
	state := seed
	return func() uint64 {
		state += 0x9E3779B97F4A7C15
		z := (state ^ state>>30) * 0xBF58476D1CE4E5B9
		z = (z ^ z>>27) * 0x94D049BB133111EB
		return z ^ z>>31
	}
}

// pick is one of a list, drawn.
func pick[T any](draw func() uint64, l ...T) T { return l[draw()%uint64(len(l))] }
