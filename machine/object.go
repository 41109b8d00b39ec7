package machine

import (
	"quill/api"
	"quill/property"
	"quill/value"
)

// Known is a known object; -1: it is not known.
func (m *Machine) Known(k int) int {
	switch {
	case !m.there():
		return 0
	case k < 0 || k >= api.Ints:
		return -1
	}
	return m.known[k]
}

// Know makes an object known.
func (m *Machine) Know(k, o int) {
	if m.there() && k >= 0 && k < api.Ints {
		m.known[k] = o
	}
}

// Fail throws an error of a known prototype.
func (m *Machine) Fail(k int) api.Done {
	o, d := m.Alloc(api.Object{Class: api.ClassError, Proto: m.Known(k)})
	if d.Kind != api.DoneNormal {
		return d
	}
	return api.Done{Kind: api.DoneThrow, Value: value.Object(o)}
}

// Alloc makes an object.
func (m *Machine) Alloc(o api.Object) (int, api.Done) {
	if !m.on() {
		return 0, m.Stop()
	}
	n, e := m.heap.Alloc(o)
	if e != api.OK {
		return 0, m.Stop()
	}
	return n, api.Done{}
}

// isObject tells whether a number is an object's.
func (m *Machine) isObject(o int) bool { return o >= 0 && o < m.heap.Len() }

// Get is what a property tells.
func (m *Machine) Get(o int, key string, this api.Value) api.Done {
	if !m.on() {
		return m.Stop()
	}
	p, _, _ := m.heap.Property(o, key)
	if p.Get.Kind == api.KindObject {
		return m.call(p.Get, this, nil)
	}
	return api.Done{Value: p.Value}
}

// Put gives a property a value.
func (m *Machine) Put(o int, key string, v api.Value, throw bool) api.Done {
	switch {
	case !m.on():
		return m.Stop()
	case !m.isObject(o):
		return api.Done{}
	}
	d := m.put(o, key, v, throw)
	if d.Kind == api.DoneNormal {
		return api.Done{}
	}
	return d
}

// put gives an object's property a value.
func (m *Machine) put(o int, key string, v api.Value, throw bool) api.Done {
	p, owner, _ := m.heap.Property(o, key)
	switch {
	case !m.heap.CanPut(o, key):
		return m.said(false, throw)
	case owner == o && property.Data(p):
		return m.Define(o, key, api.Prop{Has: api.HasValue, Value: v}, throw)
	case property.Accessor(p):
		return m.call(p.Set, value.Object(o), []api.Value{v})
	}
	return m.Define(o, key, property.Plain(v, true, true, true), throw)
}

// said is a truth; or a TypeError, if it is false and that throws.
func (m *Machine) said(ok, throw bool) api.Done {
	if !ok && throw {
		return m.Fail(api.IntTypeErrorProto)
	}
	return api.Done{Value: value.Bool(ok)}
}

// Define defines a property.
func (m *Machine) Define(o int, key string, p api.Prop, throw bool) api.Done {
	switch {
	case !m.on():
		return m.Stop()
	case !m.isObject(o):
		return api.Done{Value: value.Bool(false)}
	}
	ok, e := m.heap.Define(o, key, p)
	switch e {
	case api.ErrRange:
		return m.Fail(api.IntRangeErrorProto)
	case api.ErrFull:
		return m.Stop()
	}
	return m.said(ok, throw)
}

// Delete takes a property away.
func (m *Machine) Delete(o int, key string, throw bool) api.Done {
	switch {
	case !m.on():
		return m.Stop()
	case !m.isObject(o):
		return api.Done{Value: value.Bool(false)}
	}
	return m.said(m.heap.Delete(o, key), throw)
}
