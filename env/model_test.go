package env_test

import (
	"quill/api"
	"quill/env"
	"quill/machine"
)

// runner is what layer 15 and its model do alike.
type runner interface {
	machine() *machine.Machine
	add(e api.Env) api.Done // an environment as it is handed in
	told(n int) (api.Env, bool)
	New(outer, object int) (int, api.Done)
	Has(n int, name string) bool
	Create(n int, name string, mutable bool) api.Done
	Init(n int, name string, v api.Value) api.Done
	Set(n int, name string, v api.Value) api.Done
	Value(n int, name string) api.Done
	Find(n int, name string) int
	Lookup(n int, name string) api.Done
	Assign(n int, name string, v api.Value) api.Done
}

// layer is layer 15 over a machine.
type layer struct{ m *machine.Machine }

func (r layer) machine() *machine.Machine   { return r.m }
func (r layer) told(n int) (api.Env, bool)  { return r.m.Env(n) }
func (r layer) Has(n int, name string) bool { return env.Has(r.m, n, name) }
func (r layer) Find(n int, name string) int { return env.Find(r.m, n, name) }

func (r layer) add(e api.Env) api.Done {
	_, d := r.m.AddEnv(e)
	return d
}

func (r layer) New(outer, object int) (int, api.Done) { return env.New(r.m, outer, object) }

func (r layer) Create(n int, name string, mutable bool) api.Done {
	return env.Create(r.m, n, name, mutable)
}

func (r layer) Init(n int, name string, v api.Value) api.Done { return env.Init(r.m, n, name, v) }
func (r layer) Set(n int, name string, v api.Value) api.Done  { return env.Set(r.m, n, name, v) }
func (r layer) Value(n int, name string) api.Done             { return env.Value(r.m, n, name) }
func (r layer) Lookup(n int, name string) api.Done            { return env.Lookup(r.m, n, name) }

func (r layer) Assign(n int, name string, v api.Value) api.Done {
	return env.Assign(r.m, n, name, v)
}

// model is layer 15 a second time: the chapter's words as they stand, over environments of
// its own. Of the machine it has objects, fuel and cells alone.
type model struct {
	m    *machine.Machine
	envs []*modelEnv
}

// modelEnv has each name's slot by the name, and all slots in order.
type modelEnv struct {
	outer, object int
	slots         map[string]*api.Binding
	order         []*api.Binding
}

func (x *modelEnv) append(b api.Binding) {
	slot := &b
	x.order = append(x.order, slot)
	if _, ok := x.slots[b.Name]; !ok {
		x.slots[b.Name] = slot
	}
}

func (r *model) machine() *machine.Machine { return r.m }

func (r *model) add(e api.Env) api.Done {
	if r.m.Over() || !r.m.Heap().Take(1+len(e.Names)) {
		return r.m.Stop()
	}
	x := &modelEnv{outer: e.Outer, object: e.Object, slots: map[string]*api.Binding{}}
	for _, b := range e.Names {
		x.append(b)
	}
	r.envs = append(r.envs, x)
	return normal(undefined())
}

func (r *model) told(n int) (api.Env, bool) {
	x := r.at(n)
	if x == nil {
		return api.Env{}, false
	}
	e := api.Env{Outer: x.outer, Object: x.object}
	for _, b := range x.order {
		e.Names = append(e.Names, *b)
	}
	return e, true
}

// at is an environment; nil: it is not there.
func (r *model) at(n int) *modelEnv {
	for i, x := range r.envs {
		if i == n {
			return x
		}
	}
	return nil
}

// over begins all that tells a Done.
func (r *model) over(f func() api.Done) api.Done {
	if r.m.Over() {
		return limit()
	}
	return f()
}

func (r *model) referenceError() api.Done { return r.m.Fail(api.IntReferenceErrorProto) }

func (r *model) New(outer, object int) (int, api.Done) {
	if object < 0 {
		object = -1
	}
	n := len(r.envs)
	d := r.add(api.Env{Outer: outer, Object: object})
	if d.Kind != api.DoneNormal {
		return 0, d
	}
	return n, d
}

func (r *model) Has(n int, name string) bool {
	x := r.at(n)
	switch {
	case x == nil:
		return false
	case x.object <= -1:
		return x.slots[name] != nil
	}
	_, _, ok := r.m.Heap().Property(x.object, name)
	return ok
}

func (r *model) Create(n int, name string, mutable bool) api.Done {
	return r.over(func() api.Done {
		x := r.at(n)
		if r.Has(n, name) || x == nil {
			return normal(undefined())
		}
		if x.object >= 0 {
			d := r.m.Define(x.object, name, plain(undefined(), "we"), true)
			if d.Kind == api.DoneNormal {
				d = normal(undefined())
			}
			return d
		}
		if !r.m.Heap().Take(1) {
			return r.m.Stop()
		}
		x.append(api.Binding{Name: name, Mutable: mutable, Ready: mutable})
		return normal(undefined())
	})
}

func (r *model) Init(n int, name string, v api.Value) api.Done {
	return r.over(func() api.Done {
		if x := r.at(n); x != nil && x.object < 0 && r.Has(n, name) {
			x.slots[name].Value = v
			x.slots[name].Ready = true
		}
		return normal(undefined())
	})
}

func (r *model) Set(n int, name string, v api.Value) api.Done {
	return r.over(func() api.Done {
		x := r.at(n)
		if x == nil {
			return r.referenceError()
		}
		if x.object >= 0 {
			return r.m.Put(x.object, name, v, true)
		}
		if !r.Has(n, name) {
			return r.referenceError()
		}
		if !x.slots[name].Mutable {
			return r.m.Fail(api.IntTypeErrorProto)
		}
		return r.Init(n, name, v)
	})
}

func (r *model) Value(n int, name string) api.Done {
	return r.over(func() api.Done {
		x := r.at(n)
		if x == nil || !r.Has(n, name) {
			return r.referenceError()
		}
		if x.object >= 0 {
			return r.m.Get(x.object, name, object(x.object))
		}
		if !x.slots[name].Ready {
			return r.referenceError()
		}
		return normal(x.slots[name].Value)
	})
}

func (r *model) Find(n int, name string) int {
	met := map[int]bool{}
	for x := r.at(n); x != nil && !met[n]; x = r.at(n) {
		if r.Has(n, name) {
			return n
		}
		met[n] = true
		n = x.outer
	}
	return -1
}

func (r *model) Lookup(n int, name string) api.Done {
	return r.over(func() api.Done { return r.Value(r.Find(n, name), name) })
}

func (r *model) Assign(n int, name string, v api.Value) api.Done {
	return r.over(func() api.Done { return r.Set(r.Find(n, name), name, v) })
}
