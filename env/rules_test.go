package env_test

import (
	"math"
	"slices"
	"strings"
	"sync"
	"testing"

	"quill/api"
	"quill/env"
	"quill/machine"
)

func wildNumbers() []int {
	return []int{math.MinInt, math.MinInt32, -2, -1, 0, 1, 2, 3, 4, 9, math.MaxInt32, math.MaxInt}
}

func wildNames() []string {
	return []string{"", "a", "\x00", wide("a"), wide("g"), wide("length"), "length", "\xFF\xFF\xFF", "\xD8\x00", strings.Repeat("\x009", 5000)}
}

// wildValues are values most of which may not be.
func wildValues() []api.Value {
	l := someValues()
	l = append(l, number(math.Float64frombits(1<<63-1)), api.Value{Kind: api.KindString, S: "odd"}, api.Value{Kind: api.KindEmpty}, api.Value{Kind: -1}, api.Value{Kind: math.MaxInt, N: 1}, api.Value{Kind: api.KindNull, O: 3, S: "x"})
	for _, n := range wildNumbers() {
		l = append(l, object(n))
	}
	return l
}

// wildMachine has environments that lead round, nowhere and inward, of all sorts.
func wildMachine(t *testing.T) *machine.Machine {
	t.Helper()
	m := roomy(t)
	n := m.Register(func(m *machine.Machine, e api.Entry) api.Done {
		return env.Assign(m, 1, wide("g"), e.This)
	})
	f := object(alloc(t, m, api.Object{Class: api.ClassFunction, Proto: -1, Native: n}))
	o := alloc(t, m, bare(f.O, keyed("g", pair(f, f))))
	for _, e := range []api.Env{
		{Outer: 4, Object: -1, Names: []api.Binding{{Name: "odd"}, {Name: wide("a"), Value: api.Value{Kind: 99}}}},
		{Outer: 0, Object: o},
		{Outer: 2, Object: math.MinInt},
		{Outer: math.MaxInt, Object: math.MaxInt, Names: []api.Binding{bound("a", null(), "mr")}},
		{Outer: 1, Object: alloc(t, m, array(1, "w"))},
		{Outer: math.MinInt, Object: alloc(t, m, api.Object{Class: api.ClassString, Proto: o, Prim: narrow("ab")})},
	} {
		raw(t, m, e)
	}
	return m
}

func TestR1NoPanic(t *testing.T) {
	for _, name := range wildNames() {
		for _, v := range wildValues() {
			m := wildMachine(t)
			for _, n := range wildNumbers() {
				env.Has(m, n, name)
				env.Find(m, n, name)
				env.Value(m, n, name)
				env.Lookup(m, n, name)
				env.Init(m, n, name, v)
				env.Set(m, n, name, v)
				env.Assign(m, n, name, v)
				env.Create(m, n, name, v.B)
				env.Set(m, n, name, v)
				env.New(m, n, int(v.N))
				env.New(m, n, v.O)
				if m.Over() {
					m = wildMachine(t)
				}
			}
		}
	}
}

// A getter of an environment's object that asks for itself ends by the machine's depth.
func TestR1Round(t *testing.T) {
	m := roomy(t)
	var n int
	f := object(alloc(t, m, api.Object{Class: api.ClassFunction, Proto: -1, Native: m.Register(func(m *machine.Machine, e api.Entry) api.Done {
		return env.Lookup(m, n, wide("g"))
	})}))
	n = around(t, m, -1, alloc(t, m, bare(-1, keyed("g", pair(f, undefined())))))
	ends(t, "Lookup", env.Lookup(m, n, wide("g")), limit())
	if !m.Over() || m.Left() != wideLimits().Fuel-wideLimits().Depth-1 {
		t.Errorf("over: %v, %d left", m.Over(), m.Left())
	}
}

// A great ring is gone through once at most.
func TestR1GreatRing(t *testing.T) {
	const many = 1 << 19
	m := made(t, api.Limits{Cells: many + 1})
	for i := range many {
		scope(t, m, i-1)
	}
	m.SetEnv(0, api.Env{Outer: many - 1, Object: -1})
	if n := env.Find(m, 7, wide("a")); n != -1 {
		t.Errorf("Find: %d", n)
	}
	m.SetEnv(8, api.Env{Outer: 7, Object: -1, Names: []api.Binding{bound("a", null(), "mr")}})
	if n := env.Find(m, 7, wide("a")); n != 8 {
		t.Errorf("Find: %d", n)
	}
}

// Of a machine that New did not give all that tell a Done tell a limit.
func TestR1NoMachine(t *testing.T) {
	for _, m := range []*machine.Machine{nil, {}} {
		for _, n := range wildNumbers() {
			for what, call := range dones(m, n, wide("a")) {
				ends(t, what+" of no machine", call(), limit())
			}
			if k, _ := env.New(m, n, n); k != 0 || env.Has(m, n, wide("a")) || env.Find(m, n, wide("a")) != -1 {
				t.Error("no machine has something")
			}
		}
	}
}

// A name that is none of even bytes is a name like others, as nothing else is said of it;
// of an object's environment layer 13 has none such.
func TestR1Odd(t *testing.T) {
	m := roomy(t)
	n := scope(t, m, -1)
	ends(t, "Create", env.Create(m, n, "odd", true), normal(undefined()))
	ends(t, "Set", env.Set(m, n, "odd", null()), normal(undefined()))
	ends(t, "Lookup", env.Lookup(m, n, "odd"), normal(null()))
	k := around(t, m, n, alloc(t, m, bare(-1)))
	if env.Has(m, k, "odd") || env.Find(m, k, "odd") != n {
		t.Error("an object has an odd name")
	}
	fails(t, m, "Create", func() api.Done { return env.Create(m, k, "odd", true) }, typeErrors)
}

// What layer 14 tells of an environment is not what is kept of it.
func TestR3Apart(t *testing.T) {
	m := roomy(t)
	n := scope(t, m, -1)
	for i := range 12 {
		name := wide(string(rune('a' + i)))
		env.Create(m, n, name, true)
		was, _ := m.Env(n)
		now, _ := m.Env(n)
		room := now.Names[:cap(now.Names)]
		for k := range room {
			room[k] = bound("spoilt", narrow("spoilt"), "")
		}
		isEnv(t, m, n, was)
		env.Set(m, n, name, number(float64(i)))
		if was.Names[i].Value != undefined() {
			t.Error("an answer changed")
		}
		ends(t, "Value", env.Value(m, n, name), normal(number(float64(i))))
	}
	for i := range 12 {
		ends(t, "Value", env.Value(m, n, wide(string(rune('a'+i)))), normal(number(float64(i))))
	}
}

// Texts that lie elsewhere are the same ones.
func TestR4Copies(t *testing.T) {
	m := roomy(t)
	n := around(t, m, scope(t, m, -1), alloc(t, m, bare(-1)))
	for k := range 2 {
		ends(t, "Create", env.Create(m, k, wide("abc"), true), normal(undefined()))
		ends(t, "Set", env.Set(m, k, strings.Clone(wide("abc")), number(1)), normal(undefined()))
		ends(t, "Value", env.Value(m, k, strings.Clone(wide("abc"))), normal(number(1)))
	}
	if env.Find(m, n, strings.Clone(wide("abc"))) != n {
		t.Error("a text that lies elsewhere is not found")
	}
}

// Machines know nothing of one another, and the same calls tell the same.
func TestR4Alone(t *testing.T) {
	l := api.Limits{Fuel: 1000, Cells: 1000, Depth: 10}
	const seeds = 60
	var want [seeds][]string
	for i := range want {
		want[i] = played(t, l, uint64(i)).log
	}
	var group sync.WaitGroup
	for range 4 {
		group.Go(func() {
			for i := range want {
				if !slices.Equal(played(t, l, uint64(i)).log, want[i]) {
					t.Error("the same calls told something else")
				}
			}
		})
	}
	group.Wait()
	a, b := roomy(t), roomy(t)
	for _, m := range []*machine.Machine{a, b} {
		scope(t, m, -1, bound("a", number(1), "mr"))
	}
	env.Set(a, 0, wide("a"), number(2))
	env.Create(a, 0, wide("b"), true)
	env.New(a, 0, -1)
	a.Stop()
	ends(t, "Value", env.Value(b, 0, wide("a")), normal(number(1)))
	if env.Has(b, 0, wide("b")) || b.Envs() != 1 || b.Over() {
		t.Error("what was done to a machine is told by another one")
	}
}

// How a name's environment came to be does not matter, nor calls that told nothing.
func TestR4Ways(t *testing.T) {
	want := api.Env{Outer: -1, Object: -1, Names: []api.Binding{bound("a", number(1), "mr"), bound("b", number(2), "r")}}
	m := roomy(t)
	n, _ := env.New(m, -1, -1)
	env.Create(m, n, wide("a"), true)
	env.Create(m, n, wide("b"), false)
	env.Lookup(m, n, wide("c"))
	env.Assign(m, n, wide("b"), number(5))
	env.Init(m, n, wide("b"), number(2))
	env.Set(m, n, wide("a"), number(3))
	env.Create(m, n, wide("a"), false)
	env.Init(m, n, wide("a"), number(1))
	isEnv(t, m, n, want)
	k := scope(t, m, -1, want.Names...)
	for _, name := range []string{"a", "b"} {
		ends(t, "Value", env.Value(m, n, wide(name)), env.Value(m, k, wide(name)))
	}
}
