package env_test

import (
	"math"
	"slices"
	"testing"

	"quill/api"
	"quill/env"
	"quill/machine"
)

// someValues are values of all kinds.
func someValues() []api.Value {
	return []api.Value{undefined(), null(), {Kind: api.KindBool}, {Kind: api.KindBool, B: true}, number(0), number(math.Copysign(0, -1)), number(none()), number(math.Inf(-1)), number(1.5), narrow(""), narrow("ab"), object(0), object(7)}
}

func TestEn2Set(t *testing.T) {
	for _, marks := range []string{"m", "mr"} {
		for i := range 3 {
			for _, v := range someValues() {
				var n int
				want := api.Env{Outer: 4, Object: -1 - i, Names: []api.Binding{bound("a", number(1), "mr"), bound("b", number(2), ""), bound("", number(3), "m")}}
				m := narrowed(t, 0, func(m *machine.Machine) {
					want.Names[i] = bound("c", number(4), marks)
					n = raw(t, m, want)
				})
				was := stateOf(m)
				ends(t, "Set", env.Set(m, n, wide("c"), v), normal(undefined()))
				want.Names = slices.Clone(want.Names)
				want.Names[i] = bound("c", v, "mr")
				was.envs[n] = want
				if now := stateOf(m); !sameState(was, now) {
					t.Errorf("Set: %+v, not %+v", now, was)
				}
				ends(t, "Value", env.Value(m, n, wide("c")), normal(v))
			}
		}
	}
}

func TestEn2SetThrows(t *testing.T) {
	m := roomy(t)
	outer := scope(t, m, -1, bound("b", number(1), "mr"))
	n := scope(t, m, outer, bound("a", number(1), ""), bound("c", number(2), "r"), bound("d", number(3), "mr"))
	for _, name := range []string{"a", "c"} {
		fails(t, m, "Set of what is not mutable", func() api.Done { return env.Set(m, n, wide(name), null()) }, typeErrors)
	}
	for _, name := range []string{"b", "", "A", "aa"} {
		fails(t, m, "Set of a name that is not there", func() api.Done { return env.Set(m, n, wide(name), null()) }, referenceErrors)
	}
	for _, k := range strangers(m) {
		for _, name := range []string{"a", "b"} {
			fails(t, m, "Set of no environment", func() api.Done { return env.Set(m, k, wide(name), null()) }, referenceErrors)
			fails(t, m, "Value of no environment", func() api.Done { return env.Value(m, k, wide(name)) }, referenceErrors)
		}
	}
}

// Where errors need a cell that is not there a limit is met.
func TestEn2Cells(t *testing.T) {
	var n int
	tight := func() *machine.Machine {
		return narrowed(t, 0, func(m *machine.Machine) { n = scope(t, m, -1, bound("a", number(1), "")) })
	}
	m := tight()
	stopped(t, m, "Set of what is not mutable", func() api.Done { return env.Set(m, n, wide("a"), null()) })
	m = tight()
	stopped(t, m, "Set of no name", func() api.Done { return env.Set(m, n, wide("b"), null()) })
	m = tight()
	stopped(t, m, "Set of no environment", func() api.Done { return env.Set(m, n+1, wide("a"), null()) })
	m = tight()
	stopped(t, m, "Value of what is not ready", func() api.Done { return env.Value(m, n, wide("a")) })
	m = tight()
	stopped(t, m, "Value of no name", func() api.Done { return env.Value(m, n, wide("b")) })
	m = tight()
	stopped(t, m, "Lookup of no name", func() api.Done { return env.Lookup(m, n, wide("b")) })
	m = tight()
	stopped(t, m, "Assign of no name", func() api.Done { return env.Assign(m, n, wide("b"), null()) })
}

func TestEn2SetObject(t *testing.T) {
	m := roomy(t)
	first := alloc(t, m, bare(-1, keyed("p", plain(number(1), "wec")), keyed("r", plain(number(2), "ec"))))
	o := alloc(t, m, bare(first, keyed("a", plain(number(3), "w")), keyed("b", plain(number(4), "ec"))))
	n := around(t, m, scope(t, m, -1, bound("x", number(5), "mr")), o)
	ends(t, "Set of an own one", env.Set(m, n, wide("a"), number(6)), normal(undefined()))
	hasOwn(t, m, o, "a", plain(number(6), "w"))
	ends(t, "Set of an inherited one", env.Set(m, n, wide("p"), number(7)), normal(undefined()))
	hasOwn(t, m, o, "p", plain(number(7), "wec"))
	hasOwn(t, m, first, "p", plain(number(1), "wec"))
	for _, name := range []string{"x", "", "new"} {
		ends(t, "Set of a new one", env.Set(m, n, wide(name), number(8)), normal(undefined()))
		hasOwn(t, m, o, name, plain(number(8), "wec"))
	}
	for _, name := range []string{"b", "r"} {
		fails(t, m, "Set of what can't be written", func() api.Done { return env.Set(m, n, wide(name), null()) }, typeErrors)
	}
	k := around(t, m, -1, alloc(t, m, fixed(bare(first))))
	for _, name := range []string{"p", "new"} {
		fails(t, m, "Set of an object that can't be extended", func() api.Done { return env.Set(m, k, wide(name), null()) }, typeErrors)
	}
	isEnv(t, m, n, api.Env{Outer: 0, Object: o})
}

// The names that the environment of an object was given are nobody's.
func TestEn2ObjectNames(t *testing.T) {
	m := roomy(t)
	o := alloc(t, m, bare(-1, keyed("a", plain(number(1), "wec"))))
	e := api.Env{Outer: -1, Object: o, Names: []api.Binding{bound("a", number(2), ""), bound("b", number(3), "mr")}}
	n := raw(t, m, e)
	ends(t, "Value", env.Value(m, n, wide("a")), normal(number(1)))
	fails(t, m, "Value", func() api.Done { return env.Value(m, n, wide("b")) }, referenceErrors)
	ends(t, "Set", env.Set(m, n, wide("a"), number(4)), normal(undefined()))
	ends(t, "Set", env.Set(m, n, wide("b"), number(5)), normal(undefined()))
	hasOwn(t, m, o, "a", plain(number(4), "wec"))
	hasOwn(t, m, o, "b", plain(number(5), "wec"))
	isEnv(t, m, n, e)
}

func TestEn2SetObjectLimits(t *testing.T) {
	var n int
	m := narrowed(t, 0, func(m *machine.Machine) {
		n = around(t, m, -1, alloc(t, m, bare(-1, keyed("a", plain(null(), "w")))))
	})
	ends(t, "Set", env.Set(m, n, wide("a"), number(1)), normal(undefined()))
	stopped(t, m, "Set of a new one", func() api.Done { return env.Set(m, n, wide("b"), number(1)) })
	m = roomy(t)
	n = around(t, m, -1, 99)
	still(t, m, "Set of no object", func() api.Done { return env.Set(m, n, wide("a"), null()) }, normal(undefined()))
	fails(t, m, "Value of no object", func() api.Done { return env.Value(m, n, wide("a")) }, referenceErrors)
	k := around(t, m, -1, alloc(t, m, array(3, "w")))
	m.Know(api.IntRangeErrorProto, referenceErrors)
	fails(t, m, "Set of a length that is none", func() api.Done { return env.Set(m, k, wide("length"), number(-1)) }, referenceErrors)
	ends(t, "Set of a length", env.Set(m, k, wide("length"), narrow("1")), normal(undefined()))
	ends(t, "Value of a length", env.Value(m, k, wide("length")), normal(number(1)))
}

func TestEn2Value(t *testing.T) {
	m := roomy(t)
	outer := scope(t, m, -1, bound("o", number(1), "mr"))
	for _, v := range someValues() {
		n := scope(t, m, outer, bound("z", number(5), "mr"), bound("a", v, "mr"), bound("b", v, "r"), bound("c", v, "m"), bound("d", v, ""), bound("", v, "r"))
		for _, name := range []string{"a", "b", ""} {
			still(t, m, "Value", func() api.Done { return env.Value(m, n, wide(name)) }, normal(v))
		}
		for _, name := range []string{"c", "d"} {
			fails(t, m, "Value of what is not ready", func() api.Done { return env.Value(m, n, wide(name)) }, referenceErrors)
		}
		for _, name := range []string{"o", "A", "aa"} {
			fails(t, m, "Value of a name that is not there", func() api.Done { return env.Value(m, n, wide(name)) }, referenceErrors)
		}
	}
}

func TestEn2ValueObject(t *testing.T) {
	m := roomy(t)
	outer := scope(t, m, -1, bound("x", number(5), "mr"))
	for _, v := range someValues() {
		first := alloc(t, m, bare(-1, keyed("p", plain(v, "")), keyed("a", plain(number(9), ""))))
		n := around(t, m, outer, alloc(t, m, bare(first, keyed("a", plain(v, "wec")), keyed("u", pair(undefined(), undefined())))))
		for _, name := range []string{"a", "p"} {
			still(t, m, "Value", func() api.Done { return env.Value(m, n, wide(name)) }, normal(v))
		}
		still(t, m, "Value of no getter", func() api.Done { return env.Value(m, n, wide("u")) }, normal(undefined()))
		for _, name := range []string{"x", "", "b"} {
			fails(t, m, "Value of a name that is not there", func() api.Done { return env.Value(m, n, wide(name)) }, referenceErrors)
		}
	}
	text := around(t, m, -1, alloc(t, m, api.Object{Class: api.ClassString, Proto: -1, Prim: narrow("xy")}))
	ends(t, "Value of a unit", env.Value(m, text, wide("1")), normal(narrow("y")))
	ends(t, "Value of a length", env.Value(m, text, wide("length")), normal(number(2)))
	fails(t, m, "Set of a unit", func() api.Done { return env.Set(m, text, wide("1"), narrow("y")) }, typeErrors)
}

// Getters and setters are entered with the environment's object, whoever has them.
func TestEn2Accessors(t *testing.T) {
	for _, d := range []api.Done{normal(number(5)), thrown(narrow("x"))} {
		m := roomy(t)
		var entries []api.Entry
		get, set := native(t, m, &entries, d), native(t, m, &entries, d)
		first := alloc(t, m, bare(-1, keyed("a", pair(get, set))))
		second := alloc(t, m, bare(first, keyed("b", pair(get, set)), keyed("c", pair(get, undefined()))))
		n := around(t, m, -1, second)
		set1 := d
		if d.Kind == api.DoneNormal {
			set1 = normal(undefined())
		}
		for _, name := range []string{"a", "b"} {
			left := m.Left()
			ends(t, "Value", env.Value(m, n, wide(name)), d)
			ends(t, "Set", env.Set(m, n, wide(name), number(3)), set1)
			want := []api.Entry{{Func: get.O, This: object(second)}, {Func: set.O, This: object(second), Args: []api.Value{number(3)}}}
			if !slices.EqualFunc(entries, want, sameEntry) || m.Left() != left-2 {
				t.Errorf("entered with %+v, not %+v; %d of fuel", entries, want, left-m.Left())
			}
			entries = nil
		}
		fails(t, m, "Set without a setter", func() api.Done { return env.Set(m, n, wide("c"), null()) }, typeErrors)
		env.Has(m, n, wide("a"))
		env.Find(m, n, wide("b"))
		env.Create(m, n, wide("a"), true)
		env.Init(m, n, wide("a"), null())
		if len(entries) > 0 {
			t.Errorf("entered with %+v", entries)
		}
	}
}

func sameEntry(a, b api.Entry) bool {
	return a.Func == b.Func && a.New == b.New && alike(a.This, b.This) && slices.EqualFunc(a.Args, b.Args, alike)
}

// A getter or setter that meets a limit, or has no fuel.
func TestEn2AccessorLimits(t *testing.T) {
	for _, d := range []api.Done{limit(), normal(null())} {
		for _, name := range []string{"Value", "Set", "Lookup", "Assign"} {
			m := roomy(t)
			var entries []api.Entry
			f := native(t, m, &entries, d)
			n := around(t, m, -1, alloc(t, m, bare(-1, keyed("a", pair(f, f)))))
			if d == normal(null()) {
				m.Spend(m.Left())
			}
			ends(t, name, dones(m, n, wide("a"))[name](), limit())
			if !m.Over() {
				t.Errorf("%s: not over", name)
			}
		}
	}
}

// All that tell a Done tell DoneLimit of a machine that is over, and turn nothing.
func TestOver(t *testing.T) {
	m := roomy(t)
	f := m.Register(func(*machine.Machine, api.Entry) api.Done {
		t.Error("a machine that is over entered a native function")
		return api.Done{}
	})
	g := object(alloc(t, m, api.Object{Class: api.ClassFunction, Proto: -1, Native: f}))
	o := alloc(t, m, bare(-1, keyed("a", plain(number(1), "wec")), keyed("g", pair(g, g))))
	outer := scope(t, m, -1, bound("a", number(1), "mr"), bound("b", number(2), ""), bound("c", number(3), "m"))
	scope(t, m, outer, bound("a", number(4), "r"))
	around(t, m, outer, o)
	around(t, m, outer, 99)
	m.Stop()
	for _, n := range append(strangers(m), 0, 1, 2, 3) {
		for _, name := range []string{"a", "b", "c", "d", "g", ""} {
			for what, call := range dones(m, n, wide(name)) {
				still(t, m, what+" of a machine that is over", call, limit())
			}
		}
	}
	if n, _ := env.New(m, -1, -1); n != 0 {
		t.Errorf("New of a machine that is over: %d", n)
	}
}

// Neither fuel nor depth is needed where nothing is called.
func TestNoFuel(t *testing.T) {
	m := made(t, api.Limits{Cells: 100})
	n, d := env.New(m, -1, -1)
	ends(t, "New", d, normal(undefined()))
	for _, what := range []string{"Create", "Init", "Set", "Assign"} {
		ends(t, what, dones(m, n, wide("a"))[what](), normal(undefined()))
	}
	ends(t, "Value", env.Value(m, n, wide("a")), normal(number(7)))
	ends(t, "Lookup", env.Lookup(m, n, wide("a")), normal(number(7)))
	if m.Over() || m.Left() != 0 {
		t.Error("a limit was met")
	}
}

// The chapter's first example, and its second one.
func TestExamples(t *testing.T) {
	m := roomy(t)
	n, _ := env.New(m, -1, -1)
	env.Create(m, n, wide("a"), false)
	fails(t, m, "Value", func() api.Done { return env.Value(m, n, wide("a")) }, referenceErrors)
	ends(t, "Init", env.Init(m, n, wide("a"), number(5)), normal(undefined()))
	ends(t, "Value", env.Value(m, n, wide("a")), normal(number(5)))
	fails(t, m, "Set", func() api.Done { return env.Set(m, n, wide("a"), number(6)) }, typeErrors)
	ends(t, "Value", env.Value(m, n, wide("a")), normal(number(5)))
	fails(t, m, "Lookup", func() api.Done { return env.Lookup(m, n, wide("b")) }, referenceErrors)
}
