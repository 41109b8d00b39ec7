package machine

import (
	"slices"

	"quill/api"
	"quill/value"
)

// prototypeKey is the key `prototype`.
const prototypeKey = "\x00p\x00r\x00o\x00t\x00o\x00t\x00y\x00p\x00e"

// Register gives a native function its number.
func (m *Machine) Register(f Native) int {
	if !m.there() {
		return 0
	}
	m.natives = append(m.natives, f)
	return len(m.natives)
}

// SetBody says what does bodies.
func (m *Machine) SetBody(f Body) {
	if m.there() {
		m.body = f
	}
}

// Enter begins a nesting, which counts like a call; false: there are as many as may be.
func (m *Machine) Enter() bool {
	if !m.on() || m.deep() {
		m.Stop()
		return false
	}
	m.nestings++
	return true
}

// Leave ends one.
func (m *Machine) Leave() {
	if m.there() && m.nestings > 0 {
		m.nestings--
	}
}

// deep tells whether as many calls and nestings as may be are under way.
func (m *Machine) deep() bool { return m.calls+m.nestings >= m.limits.Depth }

// function is a function; false: the value is none.
func (m *Machine) function(f api.Value) (api.Object, bool) {
	if f.Kind != api.KindObject {
		return api.Object{}, false
	}
	x, e := m.heap.Object(f.O)
	return x, e == api.OK && x.Class == api.ClassFunction
}

// isBound tells whether a function has one that it calls, and a this.
func isBound(x api.Object) bool { return len(x.Bound) >= 2 }

// isNative tells whether a function has a number that Register gave.
func (m *Machine) isNative(x api.Object) bool { return x.Native > 0 && x.Native <= len(m.natives) }

// Call calls a function.
func (m *Machine) Call(f, this api.Value, args []api.Value) api.Done {
	return m.call(f, this, slices.Clone(args))
}

// call calls a function; the list must be nobody else's, as what is entered may keep it.
func (m *Machine) call(f, this api.Value, args []api.Value) api.Done {
	if !m.on() {
		return m.Stop()
	}
	x, ok := m.function(f)
	if !ok {
		return m.Fail(api.IntTypeErrorProto)
	}
	return m.run(x, api.Entry{Func: f.O, This: this, Args: args})
}

// run calls a function that is there.
func (m *Machine) run(x api.Object, e api.Entry) api.Done {
	if !m.Spend(1) || m.deep() {
		return m.Stop()
	}
	d := m.enter(x, e)
	switch {
	case m.over || d.Kind == api.DoneLimit:
		return m.Stop()
	case d.Kind == api.DoneThrow:
		return api.Done{Kind: api.DoneThrow, Value: d.Value}
	case d.Kind == api.DoneNormal || d.Kind == api.DoneReturn:
		return api.Done{Value: d.Value}
	}
	return api.Done{}
}

// enter enters what a function has. No call panics, whatever it is given: of what a native
// or a body that panics leaves behind nothing can be said, as of a machine that is over.
func (m *Machine) enter(x api.Object, e api.Entry) (d api.Done) {
	m.calls++
	defer func() {
		m.calls--
		if recover() != nil {
			d = m.Stop()
		}
	}()
	switch {
	case isBound(x):
		return m.call(x.Bound[0], x.Bound[1], slices.Concat(x.Bound[2:], e.Args))
	case m.isNative(x):
		if f := m.natives[x.Native-1]; f != nil {
			return f(m, e)
		}
	case x.Code > 0 && m.body != nil:
		return m.body(m, e.Func, e.This, e.Args)
	}
	return api.Done{}
}

// Construct makes an object by a function.
func (m *Machine) Construct(f api.Value, args []api.Value) api.Done {
	if !m.on() {
		return m.Stop()
	}
	x, e, ok := m.unbind(f, args)
	if !ok {
		return m.Fail(api.IntTypeErrorProto)
	}
	if !m.isNative(x) {
		return m.build(x, e)
	}
	if _, ok := m.heap.Own(e.Func, prototypeKey); !ok {
		return m.Fail(api.IntTypeErrorProto)
	}
	e.New = true
	return m.run(x, e)
}

// unbind is the function that constructs in a function's place, behind all Bound ones, and
// what it is entered with; false: they lead to none, or round in a ring. (They may be more
// than there is stack for.)
func (m *Machine) unbind(f api.Value, args []api.Value) (api.Object, api.Entry, bool) {
	lists := [][]api.Value{args}
	met := map[int]struct{}{}
	x, ok := m.function(f)
	for ok && isBound(x) {
		met[f.O] = struct{}{}
		lists = append(lists, x.Bound[2:])
		f = x.Bound[0]
		if _, again := met[f.O]; again {
			return api.Object{}, api.Entry{}, false
		}
		x, ok = m.function(f)
	}
	slices.Reverse(lists)
	return x, api.Entry{Func: f.O, Args: slices.Concat(lists...)}, ok
}

// build makes an object, and calls a function that is there with it.
func (m *Machine) build(x api.Object, e api.Entry) api.Done {
	p := m.Get(e.Func, prototypeKey, value.Object(e.Func))
	if p.Kind != api.DoneNormal {
		return p
	}
	proto := m.Known(api.IntObjectProto)
	if p.Value.Kind == api.KindObject {
		proto = p.Value.O
	}
	o, d := m.Alloc(api.Object{Class: api.ClassObject, Proto: proto})
	if d.Kind != api.DoneNormal {
		return d
	}
	e.This = value.Object(o)
	d = m.run(x, e)
	if d.Kind == api.DoneNormal && d.Value.Kind != api.KindObject {
		d.Value = e.This
	}
	return d
}
