package env_test

import (
	"math"
	"testing"

	"quill/api"
	"quill/env"
	"quill/machine"
)

// ways are some that lead outward, all of one machine.
//
//	0: a, b   around it nothing
//	1: -      around it 0
//	2: of an object with b, c, whose prototype has d; around it 1
//	3: a      around it 2
//	4: c      around it 0
//	5: -      around it an environment that is not there
func ways(t *testing.T) *machine.Machine {
	t.Helper()
	m := roomy(t)
	scope(t, m, -1, bound("a", number(1), "mr"), bound("b", number(2), "r"))
	scope(t, m, 0)
	first := alloc(t, m, bare(-1, keyed("d", plain(number(3), "wec"))))
	around(t, m, 1, alloc(t, m, bare(first, keyed("b", plain(number(4), "wec")), keyed("c", plain(number(5), "")))))
	scope(t, m, 2, bound("a", number(6), ""))
	scope(t, m, 0, bound("c", number(7), "m"))
	scope(t, m, 99)
	return m
}

func TestEn3Find(t *testing.T) {
	m := ways(t)
	was := stateOf(m)
	for n, want := range []map[string]int{{"a": 0, "b": 0}, {"a": 0, "b": 0}, {"a": 0, "b": 2, "c": 2, "d": 2}, {"a": 3, "b": 2, "c": 2, "d": 2}, {"a": 0, "b": 0, "c": 4}, {}} {
		for _, name := range []string{"a", "b", "c", "d", "e", "", "aa"} {
			k, ok := want[name]
			if !ok {
				k = -1
			}
			if got := env.Find(m, n, wide(name)); got != k {
				t.Errorf("Find(%d, %q) = %d, not %d", n, name, got, k)
			}
		}
	}
	for _, n := range strangers(m) {
		if got := env.Find(m, n, wide("a")); got != -1 {
			t.Errorf("Find(%d) = %d", n, got)
		}
	}
	if !sameState(was, stateOf(m)) {
		t.Error("Find turned something")
	}
}

func TestEn3Lookup(t *testing.T) {
	m := ways(t)
	for n, want := range []map[string]float64{{"a": 1, "b": 2}, {"a": 1, "b": 2}, {"a": 1, "b": 4, "c": 5, "d": 3}, {"b": 4, "c": 5, "d": 3}, {"a": 1, "b": 2}, {}} {
		for _, name := range []string{"a", "b", "c", "d", "e", ""} {
			look := func() api.Done { return env.Lookup(m, n, wide(name)) }
			if x, ok := want[name]; ok {
				still(t, m, "Lookup", look, normal(number(x)))
			} else {
				fails(t, m, "Lookup of what is not there, or not ready", look, referenceErrors)
			}
		}
	}
	for _, n := range strangers(m) {
		fails(t, m, "Lookup of no environment", func() api.Done { return env.Lookup(m, n, wide("a")) }, referenceErrors)
		fails(t, m, "Assign of no environment", func() api.Done { return env.Assign(m, n, wide("a"), null()) }, referenceErrors)
	}
}

func TestEn3Assign(t *testing.T) {
	v := number(9)
	for _, c := range []struct {
		n    int
		name string
		env  int // that has the name's new value
	}{{0, "a", 0}, {1, "a", 0}, {2, "a", 0}, {4, "a", 0}, {2, "b", 2}, {3, "b", 2}, {3, "d", 2}, {4, "c", 4}} {
		m := ways(t)
		ends(t, "Assign", env.Assign(m, c.n, wide(c.name), v), normal(undefined()))
		for n := range m.Envs() {
			if env.Has(m, n, wide(c.name)) && (env.Value(m, n, wide(c.name)) == normal(v)) != (n == c.env) {
				t.Errorf("Assign(%d, %q): environment %d", c.n, c.name, n)
			}
		}
	}
	m := ways(t)
	for _, c := range []struct {
		n    int
		name string
	}{{0, "b"}, {1, "b"}, {3, "a"}, {4, "b"}, {2, "c"}, {3, "c"}} {
		fails(t, m, "Assign of what can't be", func() api.Done { return env.Assign(m, c.n, wide(c.name), v) }, typeErrors)
	}
	for _, c := range []struct {
		n    int
		name string
	}{{0, "c"}, {1, "d"}, {2, "e"}, {3, ""}, {4, "d"}, {5, "a"}} {
		fails(t, m, "Assign of what is not there", func() api.Done { return env.Assign(m, c.n, wide(c.name), v) }, referenceErrors)
	}
}

// A name of the first one that has it counts, whatever it is there.
func TestEn3Hides(t *testing.T) {
	m := roomy(t)
	outer := scope(t, m, -1, bound("a", number(1), "mr"))
	var entries []api.Entry
	f := native(t, m, &entries, thrown(narrow("x")))
	o := around(t, m, outer, alloc(t, m, bare(-1, keyed("a", pair(f, undefined())))))
	ends(t, "Lookup", env.Lookup(m, scope(t, m, o), wide("a")), thrown(narrow("x")))
	fails(t, m, "Assign", func() api.Done { return env.Assign(m, o, wide("a"), null()) }, typeErrors)
	n := scope(t, m, outer, bound("a", number(2), ""))
	fails(t, m, "Lookup", func() api.Done { return env.Lookup(m, n, wide("a")) }, referenceErrors)
	fails(t, m, "Assign", func() api.Done { return env.Assign(m, n, wide("a"), null()) }, typeErrors)
	isEnv(t, m, outer, api.Env{Outer: -1, Object: -1, Names: []api.Binding{bound("a", number(1), "mr")}})
}

// Names are gone through from each environment of a long way, up to its end.
func TestEn3Long(t *testing.T) {
	m := made(t, api.Limits{Cells: 100000})
	const long = 5000
	for i := range long {
		scope(t, m, i-1, bound("all", number(float64(i)), "mr"), bound("of "+string(rune(0x4E00+i)), number(float64(i)), "mr"))
	}
	for i := 0; i < long; i += 499 {
		name := wide("of " + string(rune(0x4E00+i)))
		if k := env.Find(m, long-1, name); k != i {
			t.Errorf("Find: %d, not %d", k, i)
		}
		ends(t, "Lookup", env.Lookup(m, long-1, name), normal(number(float64(i))))
		ends(t, "Lookup", env.Lookup(m, i, wide("all")), normal(number(float64(i))))
		if i > 0 && env.Find(m, i-1, name) != -1 {
			t.Error("an inner name is found")
		}
	}
	if env.Find(m, long-1, wide("none")) != -1 || !env.Has(m, 0, wide("all")) {
		t.Error("a name that none has is found")
	}
}

// Of environments that lead round a name that none has is not there; one that one of them
// has is.
func TestEn3Rings(t *testing.T) {
	for ring := 1; ring < 6; ring++ {
		for ahead := range 4 {
			for at := range ring + ahead {
				m := roomy(t)
				for i := range ring + ahead {
					outer := i - 1
					if i == 0 {
						outer = ring - 1
					}
					l := []api.Binding{bound("x", number(1), "mr")}
					if i == at {
						l = append(l, bound("a", number(2), "mr"))
					}
					scope(t, m, outer, l...)
				}
				for n := range ring + ahead {
					want := at
					if at >= ring && n < at {
						want = -1
					}
					if k := env.Find(m, n, wide("a")); k != want {
						t.Errorf("ring of %d, %d ahead: Find(%d) = %d, not %d", ring, ahead, n, k, want)
					}
					if k := env.Find(m, n, wide("none")); k != -1 {
						t.Errorf("ring of %d: what none has is found in %d", ring, k)
					}
					fails(t, m, "Lookup in a ring", func() api.Done { return env.Lookup(m, n, wide("none")) }, referenceErrors)
					fails(t, m, "Assign in a ring", func() api.Done { return env.Assign(m, n, wide("none"), null()) }, referenceErrors)
				}
			}
		}
	}
}

// Environments that are made ahead of those around them, and in rings of objects.
func TestEn3Inward(t *testing.T) {
	m := roomy(t)
	for i := range 9 {
		scope(t, m, i+1)
	}
	around(t, m, -1, alloc(t, m, bare(-1, keyed("a", plain(null(), "")))))
	around(t, m, 10, 0)
	for n := range 10 {
		if k := env.Find(m, n, wide("a")); k != 9 {
			t.Errorf("Find(%d) = %d", n, k)
		}
		if k := env.Find(m, n, wide("b")); k != -1 {
			t.Errorf("Find(%d) = %d", n, k)
		}
	}
	if k := env.Find(m, 10, wide("a")); k != -1 {
		t.Errorf("Find in a ring = %d", k)
	}
	m = made(t, api.Limits{})
	if env.Find(m, 0, wide("a")) != -1 || env.Find(m, math.MaxInt, "") != -1 {
		t.Error("a machine without environments has a name")
	}
}
