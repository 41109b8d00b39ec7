package machine_test

import (
	"errors"
	"math"
	"slices"
	"strings"
	"sync"
	"testing"

	"quill/api"
	"quill/machine"
)

func wildNumbers() []int { return []int{math.MinInt, -2, -1, 0, 1, 2, 3, 9, math.MaxInt} }

func wildKeys() []string {
	return []string{"", "a", "\x00", wide("a"), wide("g"), wide("prototype"), wide("length"), "length", "\xFF\xFF\xFF", strings.Repeat("\x009", 1000)}
}

// wildValues are values most of which may not be.
func wildValues() []api.Value {
	l := []api.Value{undefined(), null(), truth(true), number(math.Inf(1)), number(math.Float64frombits(1<<63 - 1)), narrow("a"), {Kind: api.KindString, S: "odd"}, {Kind: api.KindEmpty}, {Kind: -1}, {Kind: math.MaxInt, N: 1}, {Kind: api.KindNull, O: 3, S: "x"}}
	for _, n := range wildNumbers() {
		l = append(l, object(n))
	}
	return l
}

// wildMachine has objects of all sorts, and functions that call each other.
func wildMachine(t *testing.T) *machine.Machine {
	m := roomy(t)
	n := m.Register(func(m *machine.Machine, e api.Entry) api.Done { return m.Call(e.This, e.This, e.Args) })
	m.SetBody(func(m *machine.Machine, f int, this api.Value, args []api.Value) api.Done {
		return m.Construct(this, args)
	})
	both := pair(object(1), object(2), "c")
	alloc(t, m, bare(-1, keyed("g", both), keyed("a", plain(null(), "w"))))
	alloc(t, m, nativeOf(n, keyed("prototype", plain(object(0), ""))))
	alloc(t, m, codeOf(1, keyed("g", both)))
	alloc(t, m, boundOf(object(3), object(1), null()))
	alloc(t, m, array(2, keyed("g", both)))
	return m
}

func TestR1NoPanic(t *testing.T) {
	for _, n := range wildNumbers() {
		m := wildMachine(t)
		for _, v := range wildValues() {
			for _, key := range wildKeys() {
				m.Get(n, key, v)
				m.Put(n, key, v, true)
				m.Put(n, key, v, false)
				for _, has := range []int{-1, 0, 1, 2, 6, 57, 54, 63, 64, n} {
					m.Define(n, key, api.Prop{Has: has, Value: v}, true)
					m.Define(n, key, api.Prop{Has: has, Get: v, Set: v}, false)
				}
				m.Delete(n, key, true)
			}
			m.Call(v, v, nil)
			m.Call(v, object(n), []api.Value{v})
			m.Construct(v, []api.Value{v, v})
			if m.Over() {
				m = wildMachine(t)
			}
		}
	}
}

func TestR1NoPanicNumbers(t *testing.T) {
	for _, n := range wildNumbers() {
		for _, v := range wildValues() {
			m := wildMachine(t)
			m.Alloc(api.Object{Class: n, Proto: n, Native: n, Code: n, Scope: n, Prim: v, Bound: []api.Value{v, v}})
			m.Alloc(api.Object{Class: api.ClassFunction, Proto: -1, Native: n, Code: n, Scope: n, Bound: []api.Value{v}, Props: []api.Keyed{{Key: "x", P: api.Prop{Value: v}}}})
			m.Know(n, n)
			m.Know(api.IntTypeErrorProto, n)
			m.Known(n)
			m.Call(v, v, nil)
			m.Fail(n)
			m = wildMachine(t)
			m.AddCode(api.Node{Kind: n, Pos: n})
			m.Code(n)
			m.AddEnv(api.Env{Outer: n, Object: n, Names: []api.Binding{{Name: "x", Value: v}}})
			m.Env(n)
			m.SetEnv(n, api.Env{Outer: n, Object: n})
			m.Enter()
			m.Leave()
			m.Spend(n)
			m.Left()
			machine.New(api.Limits{Fuel: n, Cells: n, Chars: n, Depth: n}, []float64{v.N})
		}
	}
}

// Natives that tell what may not be told.
func TestR1WildEnds(t *testing.T) {
	for _, kind := range wildNumbers() {
		for _, v := range wildValues() {
			m := roomy(t)
			d := api.Done{Kind: kind, Value: v, Label: "odd"}
			f := alloc(t, m, nativeOf(m.Register(func(*machine.Machine, api.Entry) api.Done { return d }), keyed("prototype", plain(null(), ""))))
			m.SetBody(func(*machine.Machine, int, api.Value, []api.Value) api.Done { return d })
			g := alloc(t, m, codeOf(1, keyed("prototype", pair(object(f), object(f), ""))))
			for _, o := range []int{f, g} {
				m.Call(object(o), v, nil)
				m.Construct(object(o), nil)
				m.Put(o, wide("prototype"), v, true)
			}
		}
	}
}

// A panic inside is caught inside: a limit is met.
func TestR1Panics(t *testing.T) {
	var nothing map[string]int
	for i, bad := range []func(){
		func() { panic("text") },
		func() { panic(errors.New("error")) },
		func() { panic(nil) },
		func() { nothing["a"] = 1 },
		func() { wildNumbers()[len(nothing)-1]++ },
	} {
		ways := []func(m *machine.Machine, f int) api.Done{
			func(m *machine.Machine, f int) api.Done { return m.Call(object(f), null(), nil) },
			func(m *machine.Machine, f int) api.Done { return m.Construct(object(f), nil) },
			func(m *machine.Machine, f int) api.Done {
				return m.Call(object(alloc(t, m, boundOf(object(f), null()))), null(), nil)
			},
			func(m *machine.Machine, f int) api.Done {
				return m.Get(alloc(t, m, bare(-1, keyed("g", pair(object(f), undefined(), "")))), wide("g"), null())
			},
			func(m *machine.Machine, f int) api.Done {
				return m.Put(alloc(t, m, bare(-1, keyed("g", pair(undefined(), object(f), "")))), wide("g"), null(), true)
			},
		}
		for _, way := range ways {
			m := roomy(t)
			n := m.Register(func(*machine.Machine, api.Entry) api.Done {
				bad()
				return api.Done{}
			})
			m.SetBody(func(*machine.Machine, int, api.Value, []api.Value) api.Done {
				bad()
				return api.Done{}
			})
			f := alloc(t, m, nativeOf(n, keyed("prototype", plain(null(), ""))))
			stopped(t, m, "a native that panics", way(m, f))
			m = roomy(t)
			m.Register(nil)
			m.SetBody(func(*machine.Machine, int, api.Value, []api.Value) api.Done {
				bad()
				return api.Done{}
			})
			stopped(t, m, "a body that panics", way(m, alloc(t, m, codeOf(1+i))))
		}
	}
}

// As deep as may be, by all sorts of calls.
func TestR1Deep(t *testing.T) {
	m := made(t, api.Limits{Fuel: 1 << 40, Cells: 1 << 20, Depth: api.MaxDepth})
	n := m.Register(func(m *machine.Machine, e api.Entry) api.Done {
		return m.Get(e.This.O, wide("g"), e.This)
	})
	f := alloc(t, m, nativeOf(n))
	o := alloc(t, m, bare(-1, keyed("g", pair(object(f), undefined(), ""))))
	stopped(t, m, "Get", m.Get(o, wide("g"), object(o)))
	if m.Left() != 1<<40-api.MaxDepth-1 {
		t.Errorf("%d left", m.Left())
	}
}

// roomyList is a list with room behind its end, in which something stands.
func roomyList[T any](l []T, more ...T) []T { return slices.Concat(l, more)[:len(l)] }

// What is handed in is not changed, nor the room behind it, whatever natives do to what
// they are entered with, and that is theirs.
func TestR3Args(t *testing.T) {
	for n := range 4 {
		m := roomy(t)
		var kept [][]api.Value
		keep := func(l []api.Value) {
			kept = append(kept, slices.Clone(l), l)
		}
		f := alloc(t, m, nativeOf(m.Register(func(_ *machine.Machine, e api.Entry) api.Done {
			keep(e.Args)
			return api.Done{}
		}), keyed("prototype", plain(null(), ""))))
		m.SetBody(func(_ *machine.Machine, _ int, _ api.Value, args []api.Value) api.Done {
			keep(args)
			return api.Done{}
		})
		g := alloc(t, m, codeOf(1))
		for _, o := range []int{f, g} {
			b := alloc(t, m, boundOf(object(o), null()))
			c := alloc(t, m, boundOf(object(o), null(), narrow("bound"), number(8)))
			for _, h := range []int{o, b, c} {
				want, more := []api.Value{number(1), number(2), number(3)}[:n], []api.Value{number(4), number(5)}
				args := roomyList(want, more...)
				for range 2 {
					m.Call(object(h), null(), args)
					m.Construct(object(h), args)
				}
				apart(t, kept)
				for i := 1; i < len(kept); i += 2 {
					spoil(kept[i], narrow("spoilt"))
				}
				if !slices.EqualFunc(args[:n+2], append(slices.Clone(want), more...), alike) {
					t.Errorf("%d arguments: what was handed in changed: %+v", n, args[:n+2])
				}
				kept = nil
				m.Call(object(h), null(), args)
				m.Construct(object(h), args)
				spoil(args, narrow("spoilt"))
				apart(t, kept)
				kept = nil
			}
			if x, _ := m.Heap().Object(c); !sameObject(x, boundOf(object(o), null(), narrow("bound"), number(8))) {
				t.Errorf("a bound function changed: %+v", x)
			}
		}
	}
}

// apart holds that each second list is still what it was, as the one ahead of it has it,
// also when all others of them are overwritten.
func apart(t *testing.T, l [][]api.Value) {
	t.Helper()
	if len(l) == 0 {
		t.Error("nothing was entered")
	}
	for i := 0; i < len(l); i += 2 {
		if !slices.EqualFunc(l[i], l[i+1], alike) {
			t.Errorf("entered with %+v, which is %+v now", l[i], l[i+1])
		}
		spoil(l[i+1], narrow("spoilt"))
	}
}

func TestR3Draws(t *testing.T) {
	l := []float64{0.5, 0.25}
	list := roomyList(l, 7, 8)
	m := made(t, api.Limits{}, list...)
	m.Draw()
	if !slices.Equal(list[:4], []float64{0.5, 0.25, 7, 8}) {
		t.Errorf("what was handed in changed: %v", list[:4])
	}
	spoil(list, 0)
	if x, _ := m.Draw(); x != 0.25 {
		t.Errorf("what was handed in is kept: %v", x)
	}
	if _, ok := m.Draw(); ok {
		t.Error("what lies behind a list's end is kept")
	}
}

func TestR3Envs(t *testing.T) {
	for n := range 4 {
		m := roomy(t)
		want := api.Env{Outer: 1, Object: 2, Names: names(n)}
		more := []api.Binding{{Name: "more"}, {Name: "most"}}
		for _, set := range []bool{false, true} {
			e := want
			e.Names = roomyList(want.Names, more...)
			k, _ := m.AddEnv(e)
			if set {
				m.SetEnv(k, api.Env{Names: names(3)})
				m.SetEnv(k, e)
			}
			for range 2 {
				told, ok := m.Env(k)
				envIs(t, told, ok, want)
				spoil(told.Names, api.Binding{Name: "spoilt"})
			}
			first, _ := m.Env(k)
			second, _ := m.Env(k)
			spoil(first.Names, api.Binding{Name: "spoilt"})
			envIs(t, second, true, want)
			all := e.Names[:n+2]
			if !sameEnv(api.Env{Names: all}, api.Env{Names: append(names(n), more...)}) {
				t.Errorf("what was handed in changed: %+v", all)
			}
			spoil(e.Names, api.Binding{Name: "spoilt"})
			told, ok := m.Env(k)
			envIs(t, told, ok, want)
			m.SetEnv(k, api.Env{})
			envIs(t, told, ok, want)
		}
	}
}

// Objects are layer 13's: they are not shared either.
func TestR3Objects(t *testing.T) {
	m := roomy(t)
	o := boundOf(null(), number(1), number(2))
	o.Props = []api.Keyed{keyed("a", plain(null(), "w"))}
	want := o
	want.Props, want.Bound = slices.Clone(o.Props), slices.Clone(o.Bound)
	n := alloc(t, m, o)
	spoil(o.Props, keyed("spoilt", plain(null(), "")))
	spoil(o.Bound, narrow("spoilt"))
	if x, _ := m.Heap().Object(n); !sameObject(x, want) {
		t.Errorf("object %d: %+v", n, x)
	}
}

// nil and the empty list are the same.
func TestR3Nil(t *testing.T) {
	for _, l := range [][]float64{nil, {}} {
		draw(t, made(t, api.Limits{}, l...))
	}
	m := roomy(t)
	for i, l := range [][]api.Binding{nil, {}} {
		m.AddEnv(api.Env{Names: l})
		m.SetEnv(i, api.Env{Names: l})
		e, ok := m.Env(i)
		envIs(t, e, ok, api.Env{})
	}
	var entries []api.Entry
	f := native(t, m, &entries, normal(null()))
	for _, l := range [][]api.Value{nil, {}} {
		m.Call(object(f), null(), l)
		entered(t, &entries, api.Entry{Func: f, This: null()})
	}
}

// Machines know nothing of one another, and the same calls tell the same.
func TestR4Alone(t *testing.T) {
	l := api.Limits{Fuel: 1000, Cells: 1000, Depth: 10}
	const seeds = 40
	var want [seeds][]string
	for i := range want {
		want[i] = played(t, l, uint64(i)).log
	}
	var group sync.WaitGroup
	for range 4 {
		group.Go(func() {
			for i := range want {
				if !slices.Equal(played(t, l, uint64(i)).log, want[i]) {
					t.Error("the same calls told something else")
				}
			}
		})
	}
	group.Wait()
	a, b := roomy(t), roomy(t)
	a.Register(nil)
	a.Know(api.IntGlobal, 5)
	a.AddCode(api.Node{})
	a.AddEnv(api.Env{})
	a.Heap().Take(7)
	a.Enter()
	a.Spend(3)
	a.Stop()
	if b.Register(nil) != 1 || b.Known(api.IntGlobal) != -1 || b.AddCode(api.Node{}) != 1 || b.Envs() != 0 || b.Heap().Used() != 0 || b.Left() != wideLimits().Fuel || b.Over() {
		t.Error("what was done to a machine is told by another one")
	}
}

// Codes and natives are kept: they are what they were.
func TestR3Kept(t *testing.T) {
	m := roomy(t)
	n := code("a")
	m.AddCode(n)
	for range 2 {
		if c, ok := m.Code(1); !ok || !sameNode(c, code("a")) {
			t.Errorf("Code: %+v", c)
		}
	}
	if !sameNode(n, code("a")) {
		t.Errorf("what was handed in changed: %+v", n)
	}
}

// Texts that lie elsewhere are the same ones.
func TestR4Copies(t *testing.T) {
	m := roomy(t)
	var entries []api.Entry
	f := native(t, m, &entries, normal(null()))
	m.Define(f, strings.Clone(wide("prototype")), only(null()), true)
	ends(t, "Construct", m.Construct(object(f), nil), normal(null()))
	o := alloc(t, m, bare(-1))
	ends(t, "Put", m.Put(o, wide("abc"), number(1), true), normal(undefined()))
	ends(t, "Get", m.Get(o, strings.Clone(wide("abc")), null()), normal(number(1)))
}
