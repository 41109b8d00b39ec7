package env_test

import (
	"math"
	"slices"
	"strconv"
	"strings"
	"testing"

	"quill/api"
	"quill/env"
	"quill/machine"
	"quill/ustr"
)

// Values, properties and environments are built here part by part, so that they hang on
// nothing that is tested.

func undefined() api.Value       { return api.Value{} }
func null() api.Value            { return api.Value{Kind: api.KindNull} }
func number(x float64) api.Value { return api.Value{Kind: api.KindNumber, N: x} }
func narrow(b string) api.Value  { return api.Value{Kind: api.KindString, S: wide(b)} }
func object(o int) api.Value     { return api.Value{Kind: api.KindObject, O: o} }
func wide(b string) string       { return ustr.Wide(b) }

// none is the NaN that may be.
func none() float64 { return math.Float64frombits(0x7FF8000000000000) }

// ends, which are told where nothing else is.

func normal(v api.Value) api.Done { return api.Done{Value: v} }
func thrown(v api.Value) api.Done { return api.Done{Kind: api.DoneThrow, Value: v} }
func limit() api.Done             { return api.Done{Kind: api.DoneLimit} }

// plain is a full descriptor of data; marks: which of w, e, c are so.
func plain(v api.Value, marks string) api.Prop {
	return api.Prop{Has: api.HasData | api.HasEnumerable | api.HasConfigurable, Value: v, Writable: strings.Contains(marks, "w"), Enumerable: strings.Contains(marks, "e"), Configurable: strings.Contains(marks, "c")}
}

// pair is a full descriptor of an accessor.
func pair(get, set api.Value) api.Prop {
	return api.Prop{Has: api.HasAccessor | api.HasEnumerable | api.HasConfigurable, Get: get, Set: set}
}

// keyed is a property of a key in bytes.
func keyed(key string, p api.Prop) api.Keyed { return api.Keyed{Key: wide(key), P: p} }

// bare is an extensible object of ClassObject.
func bare(proto int, l ...api.Keyed) api.Object {
	return api.Object{Class: api.ClassObject, Proto: proto, Props: l}
}

// fixed is one that can't be extended.
func fixed(o api.Object) api.Object {
	o.Fixed = true
	return o
}

// array is one of a length.
func array(length float64, marks string, l ...api.Keyed) api.Object {
	return api.Object{Class: api.ClassArray, Proto: -1, Props: append([]api.Keyed{keyed("length", plain(number(length), marks))}, l...)}
}

// bound is a name in bytes of an environment; marks: whether it is mutable (m), and ready (r).
func bound(name string, v api.Value, marks string) api.Binding {
	return api.Binding{Name: wide(name), Value: v, Mutable: strings.Contains(marks, "m"), Ready: strings.Contains(marks, "r")}
}

// wideLimits are enough for all that does not ask for limits.
func wideLimits() api.Limits {
	return api.Limits{Fuel: 100000, Cells: 100000, Chars: 100, Depth: 20}
}

// The prototypes that known errors have here; objects of these numbers are made by roomy.
const (
	typeErrors = iota
	referenceErrors
	firstOther // the number of the next object
)

// made is a machine with these limits.
func made(t *testing.T, l api.Limits) *machine.Machine {
	t.Helper()
	m, e := machine.New(l, nil)
	if e != api.OK || m == nil {
		t.Fatalf("New: %d", e)
	}
	return m
}

// roomy is a machine with much of all, and prototypes of errors.
func roomy(t *testing.T) *machine.Machine {
	t.Helper()
	m := made(t, wideLimits())
	m.Know(api.IntTypeErrorProto, alloc(t, m, bare(-1)))
	m.Know(api.IntReferenceErrorProto, alloc(t, m, bare(-1)))
	return m
}

// narrowed is a roomy one of whose cells so many are left behind what f does.
func narrowed(t *testing.T, cells int, f func(m *machine.Machine)) *machine.Machine {
	t.Helper()
	m := roomy(t)
	f(m)
	if !m.Heap().Take(m.Limits().Cells - m.Heap().Used() - cells) {
		t.Fatal("there are not so many cells")
	}
	return m
}

// alloc makes an object.
func alloc(t *testing.T, m *machine.Machine, o api.Object) int {
	t.Helper()
	n, d := m.Alloc(o)
	if d != normal(undefined()) {
		t.Fatalf("Alloc: %s", shown(d))
	}
	return n
}

// native makes a function of a native that answers each time the same, and remembers what
// it was entered with.
func native(t *testing.T, m *machine.Machine, entries *[]api.Entry, d api.Done) api.Value {
	t.Helper()
	n := m.Register(func(_ *machine.Machine, e api.Entry) api.Done {
		*entries = append(*entries, e)
		return d
	})
	return object(alloc(t, m, api.Object{Class: api.ClassFunction, Proto: -1, Native: n}))
}

// scope makes a declarative environment of these names.
func scope(t *testing.T, m *machine.Machine, outer int, l ...api.Binding) int {
	t.Helper()
	return raw(t, m, api.Env{Outer: outer, Object: -1, Names: l})
}

// around makes an environment of an object.
func around(t *testing.T, m *machine.Machine, outer, o int) int {
	t.Helper()
	return raw(t, m, api.Env{Outer: outer, Object: o})
}

// raw makes an environment by layer 14 alone.
func raw(t *testing.T, m *machine.Machine, e api.Env) int {
	t.Helper()
	n, d := m.AddEnv(e)
	if d != normal(undefined()) {
		t.Fatalf("AddEnv: %s", shown(d))
	}
	return n
}

// alike tells whether two values are the same, part by part, to the bit.
func alike(a, b api.Value) bool {
	return a.Kind == b.Kind && a.B == b.B && math.Float64bits(a.N) == math.Float64bits(b.N) && a.S == b.S && a.O == b.O
}

func sameDone(a, b api.Done) bool {
	return a.Kind == b.Kind && a.Label == b.Label && alike(a.Value, b.Value)
}

func sameEnv(a, b api.Env) bool {
	return a.Outer == b.Outer && a.Object == b.Object && slices.EqualFunc(a.Names, b.Names, func(x, y api.Binding) bool {
		return x.Name == y.Name && alike(x.Value, y.Value) && x.Mutable == y.Mutable && x.Ready == y.Ready
	})
}

// sameProp tells whether two descriptors are the same, part by part, to the bit.
func sameProp(a, b api.Prop) bool {
	return a.Has == b.Has && alike(a.Value, b.Value) && alike(a.Get, b.Get) && alike(a.Set, b.Set) && a.Writable == b.Writable && a.Enumerable == b.Enumerable && a.Configurable == b.Configurable
}

// sameObject tells whether two objects are the same.
func sameObject(a, b api.Object) bool {
	return a.Class == b.Class && a.Proto == b.Proto && a.Fixed == b.Fixed && alike(a.Prim, b.Prim) && a.Native == b.Native && a.Code == b.Code && a.Scope == b.Scope && slices.EqualFunc(a.Bound, b.Bound, alike) && slices.EqualFunc(a.Props, b.Props, func(x, y api.Keyed) bool { return x.Key == y.Key && sameProp(x.P, y.P) })
}

// envs are all environments of a machine.
func envs(m *machine.Machine) []api.Env {
	var l []api.Env
	for n := range m.Envs() {
		e, _ := m.Env(n)
		l = append(l, e)
	}
	return l
}

// state is all of a machine that an environment's call may turn.
type state struct {
	envs       []api.Env
	objects    []api.Object
	used, left int
	over       bool
}

func stateOf(m *machine.Machine) state {
	return state{envs(m), m.Heap().All(), m.Heap().Used(), m.Left(), m.Over()}
}

func sameState(a, b state) bool {
	return slices.EqualFunc(a.envs, b.envs, sameEnv) && slices.EqualFunc(a.objects, b.objects, sameObject) && a.used == b.used && a.left == b.left && a.over == b.over
}

// still holds that a call ended so, and that nothing else came of it.
func still(t *testing.T, m *machine.Machine, what string, call func() api.Done, want api.Done) {
	t.Helper()
	was := stateOf(m)
	ends(t, what, call(), want)
	if now := stateOf(m); !sameState(was, now) {
		t.Errorf("%s: %+v, not still %+v", what, now, was)
	}
}

// ends holds how something ended.
func ends(t *testing.T, what string, d, want api.Done) {
	t.Helper()
	if !sameDone(d, want) {
		t.Errorf("%s: %s, not %s", what, shown(d), shown(want))
	}
}

// fails holds that a call throws a new error of this prototype, and that nothing else
// came of it.
func fails(t *testing.T, m *machine.Machine, what string, call func() api.Done, proto int) {
	t.Helper()
	was := stateOf(m)
	d := call()
	ends(t, what, d, thrown(object(len(was.objects))))
	was.objects = append(was.objects, api.Object{Class: api.ClassError, Proto: proto})
	was.used++
	if now := stateOf(m); !sameState(was, now) {
		t.Errorf("%s: %+v, not %+v", what, now, was)
	}
}

// stopped holds that a call meets a limit, and that environments and objects are as they were.
func stopped(t *testing.T, m *machine.Machine, what string, call func() api.Done) {
	t.Helper()
	was := stateOf(m)
	ends(t, what, call(), limit())
	was.over = true
	if now := stateOf(m); !sameState(was, now) {
		t.Errorf("%s: %+v, not %+v", what, now, was)
	}
}

// isEnv holds an environment.
func isEnv(t *testing.T, m *machine.Machine, n int, want api.Env) {
	t.Helper()
	if e, ok := m.Env(n); !ok || !sameEnv(e, want) {
		t.Errorf("environment %d: %+v, %v, not %+v", n, e, ok, want)
	}
}

// hasOwn holds an own property of an object.
func hasOwn(t *testing.T, m *machine.Machine, o int, key string, want api.Prop) {
	t.Helper()
	if p, ok := m.Heap().Own(o, wide(key)); !ok || !sameProp(p, want) {
		t.Errorf("%q of %d: %+v, %v, not %+v", key, o, p, ok, want)
	}
}

// dones are all calls that tell a Done, of an environment and a name.
func dones(m *machine.Machine, n int, name string) map[string]func() api.Done {
	v := number(7)
	return map[string]func() api.Done{
		"New":                func() api.Done { _, d := env.New(m, n, -1); return d },
		"New of an object":   func() api.Done { _, d := env.New(m, n, 0); return d },
		"Create":             func() api.Done { return env.Create(m, n, name, true) },
		"Create not mutable": func() api.Done { return env.Create(m, n, name, false) },
		"Init":               func() api.Done { return env.Init(m, n, name, v) },
		"Set":                func() api.Done { return env.Set(m, n, name, v) },
		"Value":              func() api.Done { return env.Value(m, n, name) },
		"Lookup":             func() api.Done { return env.Lookup(m, n, name) },
		"Assign":             func() api.Done { return env.Assign(m, n, name, v) },
	}
}

// shown is an end for a fault's text.
func shown(d api.Done) string {
	kinds := []string{"normal", "throw", "return", "break", "continue", "limit"}
	s := "of kind " + strconv.Itoa(d.Kind)
	if d.Kind >= 0 && d.Kind < len(kinds) {
		s = kinds[d.Kind]
	}
	if d.Label != "" {
		s += " to " + strconv.Quote(ustr.Encode(d.Label))
	}
	return s + " " + named(d.Value)
}

func named(v api.Value) string {
	switch v.Kind {
	case api.KindUndefined:
		return "undefined"
	case api.KindNumber:
		return strconv.FormatFloat(v.N, 'g', -1, 64)
	case api.KindString:
		return strconv.Quote(ustr.Encode(v.S))
	case api.KindObject:
		return "object " + strconv.Itoa(v.O)
	}
	return "of kind " + strconv.Itoa(v.Kind)
}

// draws tells numbers one after the other that look like chance, the same each time.
func draws(seed uint64) func() uint64 {
	state := seed
	return func() uint64 {
		state += 0x9E3779B97F4A7C15
		z := (state ^ state>>30) * 0xBF58476D1CE4E5B9
		z = (z ^ z>>27) * 0x94D049BB133111EB
		return z ^ z>>31
	}
}

// pick is one of a list, drawn.
func pick[T any](draw func() uint64, l ...T) T { return l[draw()%uint64(len(l))] }
