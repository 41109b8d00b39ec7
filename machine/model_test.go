package machine_test

import (
	"slices"

	"quill/api"
	"quill/heap"
)

// runner is what a machine and its model do alike.
type runner interface {
	Heap() *heap.Heap
	Spend(n int) bool
	Left() int
	Over() bool
	Stop() api.Done
	Draw() (float64, bool)
	Drawn() int
	Known(k int) int
	Know(k, o int)
	Fail(k int) api.Done
	Alloc(o api.Object) (int, api.Done)
	Get(o int, key string, this api.Value) api.Done
	Put(o int, key string, v api.Value, throw bool) api.Done
	Define(o int, key string, p api.Prop, throw bool) api.Done
	Delete(o int, key string, throw bool) api.Done
	Call(f, this api.Value, args []api.Value) api.Done
	Construct(f api.Value, args []api.Value) api.Done
	Enter() bool
	Leave()
	AddCode(n api.Node) int
	Code(n int) (api.Node, bool)
	AddEnv(e api.Env) (int, api.Done)
	Env(n int) (api.Env, bool)
	SetEnv(n int, e api.Env) api.Done
	Envs() int
}

// model is a machine a second time, over the same heap's package: the chapter's words as
// they stand. Where a limit is met it panics with that, up to the call that tells a Done.
type model struct {
	limits  api.Limits
	fuel    int
	over    bool
	h       *heap.Heap
	known   map[int]int
	natives map[int]func(r runner, e api.Entry) api.Done
	body    func(r runner, e api.Entry) api.Done
	under   []string // calls and nestings that are under way, in order
	draws   []float64
	drawn   int
	codes   []api.Node
	envs    []api.Env
}

// met is a limit.
type met struct{}

func newModel(l api.Limits, draws []float64) *model {
	h, _ := heap.New(l.Cells)
	return &model{limits: l, fuel: l.Fuel, h: h, known: map[int]int{}, natives: map[int]func(r runner, e api.Entry) api.Done{}, draws: draws}
}

// tell tells what f does, or that a limit was met.
func (m *model) tell(f func() api.Done) (d api.Done) {
	if m.over {
		return limit()
	}
	defer func() {
		if r := recover(); r == (met{}) {
			d = limit()
		} else if r != nil {
			panic(r)
		}
	}()
	return f()
}

func (m *model) meet() {
	m.over = true
	panic(met{})
}

func (m *model) spend(n int) {
	if m.fuel < n {
		m.fuel = 0
		m.meet()
	}
	m.fuel -= n
}

func (m *model) take(n int) {
	if !m.h.Take(n) {
		m.meet()
	}
}

func (m *model) make(o api.Object) int {
	n, e := m.h.Alloc(o)
	if e != api.OK {
		m.meet()
	}
	return n
}

func (m *model) throw(k int) api.Done {
	return thrown(object(m.make(api.Object{Class: api.ClassError, Proto: m.Known(k)})))
}

func (m *model) there(o int) bool {
	_, e := m.h.Object(o)
	return e == api.OK
}

func (m *model) function(f api.Value) (api.Object, bool) {
	x, e := m.h.Object(f.O)
	return x, f.Kind == api.KindObject && e == api.OK && x.Class == api.ClassFunction
}

func (m *model) get(o int, key string, this api.Value) api.Done {
	p, _, ok := m.h.Property(o, key)
	if !ok {
		return normal(undefined())
	}
	if p.Has&api.HasData != 0 {
		return normal(p.Value)
	}
	if p.Get == undefined() {
		return normal(undefined())
	}
	return m.call(p.Get, this, nil, false)
}

func (m *model) put(o int, key string, v api.Value, throw bool) api.Done {
	if !m.h.CanPut(o, key) {
		if throw {
			return m.throw(api.IntTypeErrorProto)
		}
		return normal(undefined())
	}
	own, ok := m.h.Own(o, key)
	if ok && own.Has&api.HasData != 0 {
		return m.define(o, key, only(v), throw)
	}
	p, _, ok := m.h.Property(o, key)
	if ok && p.Has&api.HasAccessor != 0 {
		return m.call(p.Set, object(o), []api.Value{v}, false)
	}
	return m.define(o, key, plain(v, "wec"), throw)
}

func (m *model) define(o int, key string, p api.Prop, throw bool) api.Done {
	ok, e := m.h.Define(o, key, p)
	if e == api.ErrRange {
		return m.throw(api.IntRangeErrorProto)
	}
	if e == api.ErrFull {
		m.meet()
	}
	if !ok && throw {
		return m.throw(api.IntTypeErrorProto)
	}
	return normal(truth(ok))
}

// call is a call; with isNew a native is entered by new.
func (m *model) call(f, this api.Value, args []api.Value, isNew bool) api.Done {
	x, ok := m.function(f)
	if !ok {
		return m.throw(api.IntTypeErrorProto)
	}
	m.spend(1)
	if len(m.under) >= m.limits.Depth {
		m.meet()
	}
	m.under = append(m.under, "call")
	d := m.does(x, api.Entry{Func: f.O, This: this, Args: args, New: isNew})
	m.end("call")
	if m.over || d.Kind == api.DoneLimit {
		m.meet()
	}
	switch d.Kind {
	case api.DoneReturn:
		return normal(d.Value)
	case api.DoneBreak, api.DoneContinue:
		return normal(undefined())
	}
	return d
}

// does is what a function does while its call is under way.
func (m *model) does(x api.Object, e api.Entry) api.Done {
	if len(x.Bound) > 1 {
		args := append(slices.Clone(x.Bound[2:]), e.Args...)
		return m.call(x.Bound[0], x.Bound[1], args, false)
	}
	if f, ok := m.natives[x.Native]; ok {
		return f(m, e)
	}
	if x.Code > 0 && m.body != nil {
		return m.body(m, e)
	}
	return normal(undefined())
}

// end ends the last of a sort that is under way.
func (m *model) end(sort string) {
	for i := len(m.under) - 1; i >= 0; i-- {
		if m.under[i] == sort {
			m.under = slices.Delete(m.under, i, i+1)
			return
		}
	}
}

// construct is a construction by f; ahead is how many Bound ones led here. (A way that is
// longer than all objects are many leads round.)
func (m *model) construct(f api.Value, args []api.Value, ahead int) api.Done {
	x, ok := m.function(f)
	if !ok || ahead > m.h.Len() {
		return m.throw(api.IntTypeErrorProto)
	}
	if len(x.Bound) > 1 {
		return m.construct(x.Bound[0], append(slices.Clone(x.Bound[2:]), args...), ahead+1)
	}
	if _, ok := m.natives[x.Native]; ok {
		if _, ok := m.h.Own(f.O, wide("prototype")); !ok {
			return m.throw(api.IntTypeErrorProto)
		}
		return m.call(f, undefined(), args, true)
	}
	d := m.get(f.O, wide("prototype"), f)
	if d.Kind != api.DoneNormal {
		return d
	}
	proto := m.Known(api.IntObjectProto)
	if d.Value.Kind == api.KindObject {
		proto = d.Value.O
	}
	made := object(m.make(bare(proto)))
	if d = m.call(f, made, args, false); d.Kind == api.DoneNormal && d.Value.Kind != api.KindObject {
		return normal(made)
	}
	return d
}

func (m *model) Heap() *heap.Heap { return m.h }
func (m *model) Left() int        { return m.fuel }
func (m *model) Over() bool       { return m.over }
func (m *model) Drawn() int       { return m.drawn }
func (m *model) Envs() int        { return len(m.envs) }

func (m *model) Spend(n int) bool {
	return m.tell(func() api.Done {
		m.spend(max(n, 0))
		return normal(undefined())
	}).Kind == api.DoneNormal
}

func (m *model) Stop() api.Done {
	m.over = true
	return limit()
}

func (m *model) Draw() (float64, bool) {
	if m.drawn >= len(m.draws) {
		return 0, false
	}
	m.drawn++
	return m.draws[m.drawn-1], true
}

func (m *model) Known(k int) int {
	if o, ok := m.known[k]; ok {
		return o
	}
	return -1
}

func (m *model) Know(k, o int) {
	if k >= api.IntObjectProto && k <= api.IntGlobal {
		m.known[k] = o
	}
}

func (m *model) Fail(k int) api.Done {
	return m.tell(func() api.Done { return m.throw(k) })
}

func (m *model) Alloc(o api.Object) (n int, d api.Done) {
	d = m.tell(func() api.Done {
		n = m.make(o)
		return normal(undefined())
	})
	return n, d
}

func (m *model) Get(o int, key string, this api.Value) api.Done {
	return m.tell(func() api.Done { return m.get(o, key, this) })
}

func (m *model) Put(o int, key string, v api.Value, throw bool) api.Done {
	return m.tell(func() api.Done {
		if m.there(o) {
			if d := m.put(o, key, v, throw); d.Kind == api.DoneThrow {
				return d
			}
		}
		return normal(undefined())
	})
}

func (m *model) Define(o int, key string, p api.Prop, throw bool) api.Done {
	return m.tell(func() api.Done {
		if !m.there(o) {
			return normal(truth(false))
		}
		return m.define(o, key, p, throw)
	})
}

func (m *model) Delete(o int, key string, throw bool) api.Done {
	return m.tell(func() api.Done {
		ok := m.there(o) && m.h.Delete(o, key)
		if m.there(o) && !ok && throw {
			return m.throw(api.IntTypeErrorProto)
		}
		return normal(truth(ok))
	})
}

func (m *model) Call(f, this api.Value, args []api.Value) api.Done {
	return m.tell(func() api.Done { return m.call(f, this, args, false) })
}

func (m *model) Construct(f api.Value, args []api.Value) api.Done {
	return m.tell(func() api.Done { return m.construct(f, args, 0) })
}

func (m *model) Enter() bool {
	return m.tell(func() api.Done {
		if len(m.under) >= m.limits.Depth {
			m.meet()
		}
		m.under = append(m.under, "nesting")
		return normal(undefined())
	}).Kind == api.DoneNormal
}

func (m *model) Leave() { m.end("nesting") }

func (m *model) AddCode(n api.Node) int {
	m.codes = append(m.codes, n)
	return len(m.codes)
}

func (m *model) Code(n int) (api.Node, bool) {
	if n >= 1 && n <= len(m.codes) {
		return m.codes[n-1], true
	}
	return api.Node{}, false
}

func (m *model) AddEnv(e api.Env) (n int, d api.Done) {
	d = m.tell(func() api.Done {
		m.take(1 + len(e.Names))
		n = len(m.envs)
		m.envs = append(m.envs, e)
		return normal(undefined())
	})
	return n, d
}

func (m *model) Env(n int) (api.Env, bool) {
	if n >= 0 && n < len(m.envs) {
		return m.envs[n], true
	}
	return api.Env{}, false
}

func (m *model) SetEnv(n int, e api.Env) api.Done {
	return m.tell(func() api.Done {
		if old, ok := m.Env(n); ok {
			m.take(max(len(e.Names)-len(old.Names), 0))
			m.envs[n] = e
		}
		return normal(undefined())
	})
}
