package env_test

import (
	"math"
	"slices"
	"strings"
	"testing"

	"quill/api"
	"quill/env"
	"quill/machine"
)

func TestEn1New(t *testing.T) {
	m := roomy(t)
	n := 0
	for _, outer := range []int{math.MinInt, -7, -1, 0, 1, 5, 1000, math.MaxInt} {
		for _, c := range []struct{ object, want int }{{math.MinInt, -1}, {-7, -1}, {-2, -1}, {-1, -1}, {0, 0}, {1, 1}, {99, 99}, {math.MaxInt, math.MaxInt}} {
			was := stateOf(m)
			k, d := env.New(m, outer, c.object)
			ends(t, "New", d, normal(undefined()))
			if k != n {
				t.Errorf("New(%d, %d) = %d, not %d", outer, c.object, k, n)
			}
			was.envs = append(was.envs, api.Env{Outer: outer, Object: c.want})
			was.used++
			if now := stateOf(m); !sameState(was, now) {
				t.Errorf("New(%d, %d): %+v, not %+v", outer, c.object, now, was)
			}
			n++
		}
	}
}

func TestEn1NewCells(t *testing.T) {
	for cells := range 4 {
		m := narrowed(t, cells, func(*machine.Machine) {})
		for i := range cells {
			if n, d := env.New(m, i-1, -1); n != i || d != normal(undefined()) {
				t.Errorf("New: %d, %s", n, shown(d))
			}
		}
		stopped(t, m, "New", func() api.Done {
			n, d := env.New(m, 0, -1)
			if n != 0 {
				t.Errorf("New without a cell: %d", n)
			}
			return d
		})
	}
}

// holdsHas holds which of these names in bytes an environment has, and that asking turns nothing.
func holdsHas(t *testing.T, m *machine.Machine, n int, want ...string) {
	t.Helper()
	was := stateOf(m)
	for _, name := range []string{"", "a", "A", "b", "ab", "aa", "\x00", "á", "0", "1", "2", "length", "constructor", "a ", "toString", strings.Repeat("a", 5000)} {
		if got := env.Has(m, n, wide(name)); got != slices.Contains(want, name) {
			t.Errorf("environment %d has %q: %v", n, name, got)
		}
	}
	if !sameState(was, stateOf(m)) {
		t.Error("Has turned something")
	}
}

func TestEn1Has(t *testing.T) {
	m := roomy(t)
	one := scope(t, m, -1, bound("a", number(1), "mr"))
	holdsHas(t, m, one, "a")
	holdsHas(t, m, scope(t, m, one), []string{}...)
	holdsHas(t, m, scope(t, m, one, bound("b", undefined(), ""), bound("", null(), "m")), "b", "")
	holdsHas(t, m, scope(t, m, -1, bound("á", undefined(), "r"), bound("\x00", undefined(), ""), bound("ab", undefined(), ""), bound("length", undefined(), "")), "á", "\x00", "ab", "length")
	holdsHas(t, m, scope(t, m, -1, bound("a", null(), "m"), bound("A", null(), "m"), bound("a", null(), "")), "a", "A")
	holdsHas(t, m, raw(t, m, api.Env{Outer: -1, Object: -9, Names: []api.Binding{bound("aa", undefined(), "m")}}), "aa")
	holdsHas(t, m, one, "a")
}

func TestEn1HasObject(t *testing.T) {
	m := roomy(t)
	m.Know(api.IntObjectProto, 0)
	outer := scope(t, m, -1, bound("A", null(), "mr"))
	first := alloc(t, m, bare(-1, keyed("a", plain(undefined(), "")), keyed("", pair(undefined(), undefined()))))
	second := alloc(t, m, fixed(bare(first, keyed("b", plain(null(), "w")))))
	text := alloc(t, m, api.Object{Class: api.ClassString, Proto: second, Prim: narrow("xy")})
	list := alloc(t, m, array(2, "", keyed("1", plain(null(), ""))))
	for _, c := range []struct {
		o    int
		want []string
	}{{0, nil}, {first, []string{"a", ""}}, {second, []string{"a", "", "b"}}, {text, []string{"a", "", "b", "0", "1", "length"}}, {list, []string{"1", "length"}}} {
		holdsHas(t, m, around(t, m, -1, c.o), c.want...)
		holdsHas(t, m, around(t, m, outer, c.o), c.want...)
		holdsHas(t, m, raw(t, m, api.Env{Outer: outer, Object: c.o, Names: []api.Binding{bound("aa", null(), "mr")}}), c.want...)
	}
	for _, o := range []int{m.Heap().Len(), m.Heap().Len() + 1, math.MaxInt} {
		holdsHas(t, m, around(t, m, -1, o))
		holdsHas(t, m, raw(t, m, api.Env{Outer: outer, Object: o, Names: []api.Binding{bound("a", null(), "mr")}}))
	}
}

// What is asked of an object is asked as it is then.
func TestEn1HasLater(t *testing.T) {
	m := roomy(t)
	first := alloc(t, m, bare(-1))
	n := around(t, m, -1, alloc(t, m, bare(first)))
	holdsHas(t, m, n)
	m.Define(first, wide("a"), plain(null(), "c"), true)
	holdsHas(t, m, n, "a")
	m.Delete(first, wide("a"), true)
	holdsHas(t, m, n)
}

// strangers are numbers that no environment has.
func strangers(m *machine.Machine) []int {
	return []int{math.MinInt, -2, -1, m.Envs(), m.Envs() + 1, math.MaxInt}
}

// An environment that is not there has no names, and gets none.
func TestEn1NotThere(t *testing.T) {
	m := roomy(t)
	scope(t, m, -1, bound("a", number(1), "mr"))
	around(t, m, -1, alloc(t, m, bare(-1, keyed("a", plain(null(), "wec")))))
	for _, n := range strangers(m) {
		holdsHas(t, m, n)
		for _, name := range []string{"a", "b"} {
			calls := dones(m, n, wide(name))
			for _, what := range []string{"Create", "Create not mutable", "Init"} {
				still(t, m, what+" of none", calls[what], normal(undefined()))
			}
		}
	}
}

func TestEn1Create(t *testing.T) {
	m := roomy(t)
	outer := scope(t, m, -1, bound("a", number(1), "mr"), bound("b", number(2), "mr"))
	for _, below := range []int{-1, -5} {
		n := raw(t, m, api.Env{Outer: outer, Object: below})
		want := api.Env{Outer: outer, Object: below}
		for _, c := range []struct{ name, marks string }{{"b", "mr"}, {"a", ""}, {"", "mr"}, {"á", ""}, {"length", ""}, {"A", "mr"}} {
			was := stateOf(m)
			ends(t, "Create", env.Create(m, n, wide(c.name), c.marks == "mr"), normal(undefined()))
			want.Names = append(want.Names, bound(c.name, undefined(), c.marks))
			was.envs[n] = want
			was.used++
			if now := stateOf(m); !sameState(was, now) {
				t.Errorf("Create of %q: %+v, not %+v", c.name, now, was)
			}
		}
	}
}

// What is there already stays as it is, and costs nothing.
func TestEn1CreateAgain(t *testing.T) {
	var n, o int
	m := narrowed(t, 0, func(m *machine.Machine) {
		n = scope(t, m, -1, bound("a", number(1), "mr"), bound("b", number(2), ""), bound("c", number(3), "m"), bound("a", number(4), ""))
		first := alloc(t, m, bare(-1, keyed("b", plain(number(5), "")), keyed("c", pair(undefined(), undefined()))))
		o = around(t, m, -1, alloc(t, m, fixed(bare(first, keyed("a", plain(number(6), "c"))))))
	})
	for _, k := range []int{n, o} {
		for _, name := range []string{"a", "b", "c"} {
			for _, mutable := range []bool{false, true} {
				still(t, m, "Create of what is there", func() api.Done { return env.Create(m, k, wide(name), mutable) }, normal(undefined()))
			}
		}
	}
}

func TestEn1CreateCells(t *testing.T) {
	for cells := range 4 {
		var n int
		m := narrowed(t, cells, func(m *machine.Machine) { n = scope(t, m, -1, bound("a", null(), "")) })
		for i := range cells {
			ends(t, "Create", env.Create(m, n, wide(string(rune('b'+i))), i > 0), normal(undefined()))
		}
		stopped(t, m, "Create without a cell", func() api.Done { return env.Create(m, n, wide("z"), true) })
	}
}

func TestEn1CreateObject(t *testing.T) {
	for _, mutable := range []bool{false, true} {
		m := roomy(t)
		outer := scope(t, m, -1, bound("a", null(), "mr"))
		for _, x := range []api.Object{bare(-1), bare(0, keyed("z", plain(null(), ""))), array(3, "w"), {Class: api.ClassString, Proto: -1, Prim: narrow("")}, {Class: api.ClassFunction, Proto: -1}} {
			o := alloc(t, m, x)
			n := around(t, m, outer, o)
			for _, name := range []string{"a", "", "b"} {
				was := stateOf(m)
				ends(t, "Create", env.Create(m, n, wide(name), mutable), normal(undefined()))
				was.objects[o].Props = append(was.objects[o].Props, keyed(name, plain(undefined(), "we")))
				was.used++
				if now := stateOf(m); !sameState(was, now) {
					t.Errorf("Create of %q: %+v, not %+v", name, now, was)
				}
			}
		}
	}
}

// Layer 14's Define says what may be, and throws.
func TestEn1CreateObjectThrows(t *testing.T) {
	m := roomy(t)
	for _, c := range []struct {
		x    api.Object
		name string
	}{{fixed(bare(-1)), "a"}, {fixed(bare(0, keyed("b", plain(null(), "wec")))), "a"}, {array(2, ""), "2"}, {fixed(array(2, "w")), "1"}, {fixed(api.Object{Class: api.ClassString, Proto: -1, Prim: narrow("xy")}), "2"}} {
		n := around(t, m, -1, alloc(t, m, c.x))
		for _, mutable := range []bool{false, true} {
			fails(t, m, "Create", func() api.Done { return env.Create(m, n, wide(c.name), mutable) }, typeErrors)
		}
	}
	n := around(t, m, -1, alloc(t, m, array(2, "w")))
	ends(t, "Create", env.Create(m, n, wide("5"), true), normal(undefined()))
	e, _ := m.Env(n)
	hasOwn(t, m, e.Object, "length", plain(number(6), "w"))
	hasOwn(t, m, e.Object, "5", plain(undefined(), "we"))
}

func TestEn1CreateObjectCells(t *testing.T) {
	var n int
	m := narrowed(t, 1, func(m *machine.Machine) { n = around(t, m, -1, alloc(t, m, bare(-1))) })
	ends(t, "Create", env.Create(m, n, wide("a"), true), normal(undefined()))
	stopped(t, m, "Create without a cell", func() api.Done { return env.Create(m, n, wide("b"), true) })
	m = narrowed(t, 0, func(m *machine.Machine) { n = around(t, m, -1, alloc(t, m, fixed(bare(-1)))) })
	stopped(t, m, "Create that throws, without a cell", func() api.Done { return env.Create(m, n, wide("a"), true) })
}

// An object that is not there: layer 14's Define does nothing, and does not throw.
func TestEn1CreateNoObject(t *testing.T) {
	m := roomy(t)
	for _, o := range []int{m.Heap().Len(), 99, math.MaxInt} {
		n := around(t, m, -1, o)
		still(t, m, "Create of no object", func() api.Done { return env.Create(m, n, wide("a"), true) }, normal(undefined()))
		still(t, m, "Init of no object", func() api.Done { return env.Init(m, n, wide("a"), null()) }, normal(undefined()))
	}
}

func TestEn1Init(t *testing.T) {
	for _, below := range []int{-1, -5} {
		for _, marks := range []string{"", "m", "r", "mr"} {
			for i := range 3 {
				for _, v := range []api.Value{number(7), undefined(), number(none()), number(math.Copysign(0, -1)), narrow("x"), object(3)} {
					var n int
					want := api.Env{Outer: 4, Object: below, Names: []api.Binding{bound("a", number(1), "mr"), bound("b", number(2), ""), bound("", number(3), "m")}}
					m := narrowed(t, 0, func(m *machine.Machine) {
						want.Names[i] = bound("c", number(4), marks)
						n = raw(t, m, want)
					})
					was := stateOf(m)
					ends(t, "Init", env.Init(m, n, wide("c"), v), normal(undefined()))
					want.Names = slices.Clone(want.Names)
					want.Names[i] = bound("c", v, marks+"r")
					was.envs[n] = want
					if now := stateOf(m); !sameState(was, now) {
						t.Errorf("Init: %+v, not %+v", now, was)
					}
				}
			}
		}
	}
}

// Of all others it is nothing: of a name that is not there, and of an object's, though its
// environment was given such a name, too.
func TestEn1InitNothing(t *testing.T) {
	m := roomy(t)
	outer := scope(t, m, -1, bound("b", number(1), "m"))
	n := scope(t, m, outer, bound("a", number(1), "m"))
	still(t, m, "Init of an outer name", func() api.Done { return env.Init(m, n, wide("b"), null()) }, normal(undefined()))
	still(t, m, "Init of no name", func() api.Done { return env.Init(m, n, wide(""), null()) }, normal(undefined()))
	var entries []api.Entry
	f := native(t, m, &entries, normal(null()))
	o := alloc(t, m, bare(-1, keyed("a", plain(number(2), "wec")), keyed("g", pair(f, f))))
	for _, k := range []int{around(t, m, -1, o), raw(t, m, api.Env{Outer: outer, Object: o, Names: []api.Binding{bound("a", number(3), "m"), bound("c", number(4), "")}})} {
		for _, name := range []string{"a", "b", "c", "g"} {
			still(t, m, "Init of an object's", func() api.Done { return env.Init(m, k, wide(name), null()) }, normal(undefined()))
		}
	}
	if len(entries) > 0 {
		t.Error("a setter was called")
	}
}

// Of a name that stands twice the first one counts.
func TestEn1Twice(t *testing.T) {
	m := roomy(t)
	l := []api.Binding{bound("b", number(0), ""), bound("a", number(1), "m"), bound("a", number(2), "mr"), bound("a", number(3), "")}
	n := scope(t, m, -1, l...)
	ends(t, "Init", env.Init(m, n, wide("a"), number(9)), normal(undefined()))
	want := slices.Clone(l)
	want[1] = bound("a", number(9), "mr")
	isEnv(t, m, n, api.Env{Outer: -1, Object: -1, Names: want})
	ends(t, "Value", env.Value(m, n, wide("a")), normal(number(9)))
	ends(t, "Set", env.Set(m, n, wide("a"), number(8)), normal(undefined()))
	want[1] = bound("a", number(8), "mr")
	isEnv(t, m, n, api.Env{Outer: -1, Object: -1, Names: want})
	k := scope(t, m, -1, bound("a", number(1), ""), bound("a", number(2), "mr"))
	fails(t, m, "Set of a first one that is not mutable", func() api.Done { return env.Set(m, k, wide("a"), null()) }, typeErrors)
	fails(t, m, "Value of a first one that is not ready", func() api.Done { return env.Value(m, k, wide("a")) }, referenceErrors)
}
