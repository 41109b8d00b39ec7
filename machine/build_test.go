package machine_test

import (
	"math"
	"slices"
	"strconv"
	"strings"
	"testing"

	"quill/api"
	"quill/machine"
	"quill/ustr"
)

// Values, descriptors and objects are built here part by part, so that they hang on
// nothing that is tested.

func undefined() api.Value       { return api.Value{} }
func null() api.Value            { return api.Value{Kind: api.KindNull} }
func truth(b bool) api.Value     { return api.Value{Kind: api.KindBool, B: b} }
func number(x float64) api.Value { return api.Value{Kind: api.KindNumber, N: x} }
func narrow(b string) api.Value  { return api.Value{Kind: api.KindString, S: wide(b)} }
func object(o int) api.Value     { return api.Value{Kind: api.KindObject, O: o} }
func wide(b string) string       { return ustr.Wide(b) }

// none is the NaN that may be.
func none() float64 { return math.Float64frombits(0x7FF8000000000000) }

// ends, which are told where nothing else is.

func normal(v api.Value) api.Done { return api.Done{Value: v} }
func thrown(v api.Value) api.Done { return api.Done{Kind: api.DoneThrow, Value: v} }
func limit() api.Done             { return api.Done{Kind: api.DoneLimit} }

const (
	fullData     = api.HasValue | api.HasWritable | api.HasEnumerable | api.HasConfigurable
	fullAccessor = api.HasGet | api.HasSet | api.HasEnumerable | api.HasConfigurable
)

// plain is a full descriptor of data; marks: which of w, e, c are so.
func plain(v api.Value, marks string) api.Prop {
	return api.Prop{Has: fullData, Value: v, Writable: strings.Contains(marks, "w"), Enumerable: strings.Contains(marks, "e"), Configurable: strings.Contains(marks, "c")}
}

// pair is a full descriptor of an accessor.
func pair(get, set api.Value, marks string) api.Prop {
	p := plain(undefined(), marks)
	p.Has, p.Get, p.Set = fullAccessor, get, set
	return p
}

// only is a descriptor that has a value and nothing else.
func only(v api.Value) api.Prop { return api.Prop{Has: api.HasValue, Value: v} }

// keyed is a property of a key in bytes.
func keyed(key string, p api.Prop) api.Keyed { return api.Keyed{Key: wide(key), P: p} }

// bare is an extensible object of ClassObject.
func bare(proto int, l ...api.Keyed) api.Object {
	return api.Object{Class: api.ClassObject, Proto: proto, Props: l}
}

// fixed is one that can't be extended.
func fixed(o api.Object) api.Object {
	o.Fixed = true
	return o
}

// array is one of a length that can be written.
func array(length float64, l ...api.Keyed) api.Object {
	return api.Object{Class: api.ClassArray, Proto: -1, Props: append([]api.Keyed{keyed("length", plain(number(length), "w"))}, l...)}
}

// Functions, by what they have.

func nativeOf(n int, l ...api.Keyed) api.Object {
	return api.Object{Class: api.ClassFunction, Proto: -1, Native: n, Props: l}
}

func codeOf(n int, l ...api.Keyed) api.Object {
	return api.Object{Class: api.ClassFunction, Proto: -1, Code: n, Props: l}
}

func boundOf(l ...api.Value) api.Object {
	return api.Object{Class: api.ClassFunction, Proto: -1, Bound: l}
}

// wideLimits are enough for all that does not ask for limits.
func wideLimits() api.Limits {
	return api.Limits{Fuel: 100000, Cells: 100000, Chars: 100, Depth: 20}
}

// made is a machine with these limits.
func made(t *testing.T, l api.Limits, draws ...float64) *machine.Machine {
	t.Helper()
	m, e := machine.New(l, draws)
	if e != api.OK || m == nil {
		t.Fatalf("New: %d", e)
	}
	return m
}

// roomy is a machine with much of all.
func roomy(t *testing.T) *machine.Machine {
	t.Helper()
	return made(t, wideLimits())
}

// over is a machine at which a limit was met, with objects 0 and 1, the second one a
// function of a native that must not be entered.
func over(t *testing.T) *machine.Machine {
	t.Helper()
	m := roomy(t)
	n := m.Register(func(*machine.Machine, api.Entry) api.Done {
		t.Error("a machine that is over entered a native function")
		return api.Done{}
	})
	alloc(t, m, bare(-1, keyed("a", plain(number(1), "wec"))))
	alloc(t, m, nativeOf(n, keyed("prototype", plain(object(0), ""))))
	ends(t, "Stop", m.Stop(), limit())
	return m
}

// alloc makes an object.
func alloc(t *testing.T, m *machine.Machine, o api.Object) int {
	t.Helper()
	n, d := m.Alloc(o)
	if !sameDone(d, normal(undefined())) {
		t.Fatalf("Alloc: %s", shown(d))
	}
	return n
}

// native makes a function of a native that answers each time the same, and remembers what
// it was entered with.
func native(t *testing.T, m *machine.Machine, entries *[]api.Entry, d api.Done) int {
	t.Helper()
	return alloc(t, m, nativeOf(m.Register(func(_ *machine.Machine, e api.Entry) api.Done {
		*entries = append(*entries, e)
		return d
	})))
}

// alike tells whether two values are the same, part by part, to the bit.
func alike(a, b api.Value) bool {
	return a.Kind == b.Kind && a.B == b.B && math.Float64bits(a.N) == math.Float64bits(b.N) && a.S == b.S && a.O == b.O
}

func sameDone(a, b api.Done) bool {
	return a.Kind == b.Kind && a.Label == b.Label && alike(a.Value, b.Value)
}

func sameEntry(a, b api.Entry) bool {
	return a.Func == b.Func && a.New == b.New && alike(a.This, b.This) && slices.EqualFunc(a.Args, b.Args, alike)
}

// entered holds what natives were entered with, and forgets it.
func entered(t *testing.T, entries *[]api.Entry, want ...api.Entry) {
	t.Helper()
	if !slices.EqualFunc(*entries, want, sameEntry) {
		t.Errorf("entered with %+v, not %+v", *entries, want)
	}
	*entries = nil
}

// ends holds how something ended.
func ends(t *testing.T, what string, d, want api.Done) {
	t.Helper()
	if !sameDone(d, want) {
		t.Errorf("%s: %s, not %s", what, shown(d), shown(want))
	}
}

// fails holds that a new error, the last object, was thrown, and that it has this prototype.
func fails(t *testing.T, m *machine.Machine, what string, d api.Done, proto int) {
	t.Helper()
	n := m.Heap().Len() - 1
	ends(t, what, d, thrown(object(n)))
	if x, _ := m.Heap().Object(n); !sameObject(x, api.Object{Class: api.ClassError, Proto: proto}) {
		t.Errorf("%s: object %d: %+v, not an error of prototype %d", what, n, x, proto)
	}
}

// stopped holds that a limit was met.
func stopped(t *testing.T, m *machine.Machine, what string, d api.Done) {
	t.Helper()
	ends(t, what, d, limit())
	if !m.Over() {
		t.Errorf("%s: not over", what)
	}
}

// has holds an own property.
func has(t *testing.T, m *machine.Machine, o int, key string, want api.Prop) {
	t.Helper()
	if p, _ := m.Heap().Own(o, wide(key)); !equal(p, want) {
		t.Errorf("%q of %d: %+v, not %+v", key, o, p, want)
	}
}

// equal tells whether two descriptors are the same, part by part, to the bit.
func equal(a, b api.Prop) bool {
	return a.Has == b.Has && alike(a.Value, b.Value) && alike(a.Get, b.Get) && alike(a.Set, b.Set) && a.Writable == b.Writable && a.Enumerable == b.Enumerable && a.Configurable == b.Configurable
}

// sameObject tells whether two objects are the same.
func sameObject(a, b api.Object) bool {
	return a.Class == b.Class && a.Proto == b.Proto && a.Fixed == b.Fixed && alike(a.Prim, b.Prim) && a.Native == b.Native && a.Code == b.Code && a.Scope == b.Scope && slices.EqualFunc(a.Bound, b.Bound, alike) && slices.EqualFunc(a.Props, b.Props, func(x, y api.Keyed) bool { return x.Key == y.Key && equal(x.P, y.P) })
}

func sameEnv(a, b api.Env) bool {
	return a.Outer == b.Outer && a.Object == b.Object && slices.EqualFunc(a.Names, b.Names, func(x, y api.Binding) bool {
		return x.Name == y.Name && alike(x.Value, y.Value) && x.Mutable == y.Mutable && x.Ready == y.Ready
	})
}

// shown is an end for a fault's text.
func shown(d api.Done) string {
	kinds := []string{"normal", "throw", "return", "break", "continue", "limit"}
	s := "of kind " + strconv.Itoa(d.Kind)
	if d.Kind >= 0 && d.Kind < len(kinds) {
		s = kinds[d.Kind]
	}
	if d.Label != "" {
		s += " to " + strconv.Quote(ustr.Encode(d.Label))
	}
	return s + " " + named(d.Value)
}

func named(v api.Value) string {
	switch v.Kind {
	case api.KindUndefined:
		return "undefined"
	case api.KindBool:
		return strconv.FormatBool(v.B)
	case api.KindNumber:
		return strconv.FormatFloat(v.N, 'g', -1, 64)
	case api.KindString:
		return strconv.Quote(ustr.Encode(v.S))
	case api.KindObject:
		return "object " + strconv.Itoa(v.O)
	}
	return "of kind " + strconv.Itoa(v.Kind)
}

// draws tells numbers one after the other that look like chance, the same each time.
func draws(seed uint64) func() uint64 {
	state := seed
	return func() uint64 {
		state += 0x9E3779B97F4A7C15
		z := (state ^ state>>30) * 0xBF58476D1CE4E5B9
		z = (z ^ z>>27) * 0x94D049BB133111EB
		return z ^ z>>31
	}
}

// pick is one of a list, drawn.
func pick[T any](draw func() uint64, l ...T) T { return l[draw()%uint64(len(l))] }
