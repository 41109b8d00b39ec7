package env

import (
	"quill/api"
	"quill/machine"
)

// Set gives a name a value.
func Set(m *machine.Machine, env int, name string, v api.Value) api.Done {
	if !on(m) {
		return m.Stop()
	}
	e, ok := m.Env(env)
	if ok && !declarative(e) {
		return m.Put(e.Object, name, v, true)
	}
	i := place(e, name)
	switch {
	case i < 0:
		return m.Fail(api.IntReferenceErrorProto)
	case !e.Names[i].Mutable:
		return m.Fail(api.IntTypeErrorProto)
	}
	return give(m, env, e, i, v)
}

// Value is a name's value.
func Value(m *machine.Machine, env int, name string) api.Done {
	if !on(m) {
		return m.Stop()
	}
	e, ok := m.Env(env)
	switch {
	case !ok || !has(m, e, name):
		return m.Fail(api.IntReferenceErrorProto)
	case !declarative(e):
		return m.Get(e.Object, name, api.Value{Kind: api.KindObject, O: e.Object})
	}
	b := e.Names[place(e, name)]
	if !b.Ready {
		return m.Fail(api.IntReferenceErrorProto)
	}
	return api.Done{Value: b.Value}
}
