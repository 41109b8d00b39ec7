package machine_test

import (
	"math"
	"testing"

	"quill/api"
)

// code is a function's code of a name.
func code(name string) api.Node {
	return api.Node{Kind: api.NodeFunction, Str: wide(name), Kids: []api.Node{{Kind: api.NodeName, Str: wide("x"), Pos: 3}, {Kind: api.NodeBody}}, Pos: 1}
}

func sameNode(a, b api.Node) bool {
	if a.Kind != b.Kind || a.Op != b.Op || a.Str != b.Str || math.Float64bits(a.Num) != math.Float64bits(b.Num) || a.Flag != b.Flag || a.Pos != b.Pos || len(a.Kids) != len(b.Kids) {
		return false
	}
	for i := range a.Kids {
		if !sameNode(a.Kids[i], b.Kids[i]) {
			return false
		}
	}
	return true
}

func TestMa5Codes(t *testing.T) {
	m := made(t, api.Limits{})
	l := []api.Node{code("a"), {Kind: api.NodeDeclare, Str: wide("b")}, {}, code("a"), {Kind: 99, Op: "x", Num: math.Copysign(0, -1), Flag: true}}
	for i, n := range l {
		if c := m.AddCode(n); c != i+1 {
			t.Errorf("AddCode: %d, not %d", c, i+1)
		}
		for j, want := range l[:i+1] {
			if c, ok := m.Code(j + 1); !ok || !sameNode(c, want) {
				t.Errorf("Code(%d): %+v, %v", j+1, c, ok)
			}
		}
		for _, k := range []int{math.MinInt, -1, 0, i + 2, i + 3, math.MaxInt} {
			if c, ok := m.Code(k); ok || !sameNode(c, api.Node{}) {
				t.Errorf("Code(%d): %+v, %v", k, c, ok)
			}
		}
	}
	if m.Over() || m.Heap().Used() != 0 {
		t.Error("codes cost nothing")
	}
}

// names are so many.
func names(n int) []api.Binding {
	var l []api.Binding
	for i := range n {
		l = append(l, api.Binding{Name: wide(string(rune('a' + i))), Value: number(float64(i)), Mutable: i%2 == 0, Ready: i%3 == 0})
	}
	return l
}

// envIs holds an environment.
func envIs(t *testing.T, e api.Env, ok bool, want api.Env) {
	t.Helper()
	if !ok || !sameEnv(e, want) {
		t.Errorf("%+v, %v, not %+v", e, ok, want)
	}
}

func TestMa5Envs(t *testing.T) {
	m := roomy(t)
	l := []api.Env{{Outer: -1, Object: -1}, {Outer: 0, Object: 5, Names: names(3)}, {}, {Outer: 99, Object: -7, Names: names(1)}, {Outer: math.MinInt, Object: math.MaxInt}}
	used := 0
	for i, e := range l {
		n, d := m.AddEnv(e)
		ends(t, "AddEnv", d, normal(undefined()))
		used += 1 + len(e.Names)
		if n != i || m.Envs() != i+1 || m.Heap().Used() != used {
			t.Errorf("AddEnv: %d, %d environments, %d used", n, m.Envs(), m.Heap().Used())
		}
		for j, want := range l[:i+1] {
			e, ok := m.Env(j)
			envIs(t, e, ok, want)
		}
		for _, k := range []int{math.MinInt, -1, i + 1, math.MaxInt} {
			if e, ok := m.Env(k); ok || !sameEnv(e, api.Env{}) {
				t.Errorf("Env(%d): %+v, %v", k, e, ok)
			}
		}
	}
	if m.Left() != wideLimits().Fuel || m.Heap().Len() != 0 {
		t.Errorf("%d left, %d objects", m.Left(), m.Heap().Len())
	}
}

// An environment takes one cell, and each of its names one.
func TestMa5AddEnvCells(t *testing.T) {
	for cells := range 6 {
		for n := range 6 {
			m := made(t, api.Limits{Cells: cells})
			k, d := m.AddEnv(api.Env{Outer: -1, Object: -1, Names: names(n)})
			if n < cells {
				ends(t, "AddEnv", d, normal(undefined()))
				if m.Heap().Used() != n+1 || m.Envs() != 1 || m.Over() {
					t.Errorf("%d names in %d cells: %d used", n, cells, m.Heap().Used())
				}
				continue
			}
			stopped(t, m, "AddEnv", d)
			if k != 0 || m.Envs() != 0 || m.Heap().Used() != 0 {
				t.Errorf("%d names in %d cells: %d, %d environments, %d used", n, cells, k, m.Envs(), m.Heap().Used())
			}
		}
	}
}

func TestMa5SetEnv(t *testing.T) {
	m := roomy(t)
	for i := range 3 {
		m.AddEnv(api.Env{Outer: i - 1, Object: -1, Names: names(2)})
	}
	used := m.Heap().Used()
	for _, c := range []struct{ n, more int }{{2, 0}, {3, 1}, {0, 0}, {1, 1}, {5, 4}, {5, 0}, {4, 0}} {
		want := api.Env{Outer: 7, Object: 8 + c.n, Names: names(c.n)}
		ends(t, "SetEnv", m.SetEnv(1, want), normal(undefined()))
		used += c.more
		e, ok := m.Env(1)
		envIs(t, e, ok, want)
		if m.Heap().Used() != used {
			t.Errorf("%d names: %d used, not %d", c.n, m.Heap().Used(), used)
		}
	}
	for _, n := range []int{math.MinInt, -1, 3, math.MaxInt} {
		ends(t, "SetEnv of none", m.SetEnv(n, api.Env{Names: names(9)}), normal(undefined()))
	}
	for _, n := range []int{0, 2} {
		e, ok := m.Env(n)
		envIs(t, e, ok, api.Env{Outer: n - 1, Object: -1, Names: names(2)})
	}
	if m.Envs() != 3 || m.Heap().Used() != used {
		t.Errorf("%d environments, %d used", m.Envs(), m.Heap().Used())
	}
}

func TestMa5SetEnvCells(t *testing.T) {
	for had := range 4 {
		for cells := had + 1; cells < 8; cells++ {
			for n := range 8 {
				m := made(t, api.Limits{Cells: cells})
				old, want := api.Env{Outer: -1, Object: -1, Names: names(had)}, api.Env{Outer: 3, Object: 4, Names: names(n)}
				m.AddEnv(old)
				d := m.SetEnv(0, want)
				e, ok := m.Env(0)
				if n < cells {
					ends(t, "SetEnv", d, normal(undefined()))
					envIs(t, e, ok, want)
				} else {
					stopped(t, m, "SetEnv", d)
					envIs(t, e, ok, old)
				}
				if used := m.Heap().Used(); n < cells && used != 1+max(had, n) || n >= cells && used != 1+had {
					t.Errorf("from %d to %d in %d cells: %d used", had, n, cells, used)
				}
			}
		}
	}
}

// Objects and environments take of the same cells.
func TestMa5CellsOfAll(t *testing.T) {
	m := made(t, api.Limits{Cells: 4})
	m.AddEnv(api.Env{Names: names(1)})
	alloc(t, m, bare(-1))
	if !m.Heap().Take(1) {
		t.Error("one is left")
	}
	_, d := m.AddEnv(api.Env{})
	stopped(t, m, "AddEnv", d)
}
