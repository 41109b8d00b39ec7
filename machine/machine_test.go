package machine_test

import (
	"math"
	"slices"
	"testing"

	"quill/api"
	"quill/machine"
)

func TestMa1New(t *testing.T) {
	for _, c := range []struct {
		l    api.Limits
		want api.Errno
	}{
		{api.Limits{}, api.OK},
		{api.Limits{Fuel: 1, Cells: 2, Chars: 3, Depth: 4}, api.OK},
		{api.Limits{Fuel: math.MaxInt, Cells: api.MaxCells, Chars: api.MaxChars, Depth: api.MaxDepth}, api.OK},
		{api.Limits{Fuel: -1}, api.ErrArg},
		{api.Limits{Fuel: math.MinInt}, api.ErrArg},
		{api.Limits{Cells: -1}, api.ErrArg},
		{api.Limits{Cells: api.MaxCells + 1}, api.ErrArg},
		{api.Limits{Chars: -1}, api.ErrArg},
		{api.Limits{Chars: api.MaxChars + 1}, api.ErrArg},
		{api.Limits{Chars: math.MaxInt}, api.ErrArg},
		{api.Limits{Depth: -1}, api.ErrArg},
		{api.Limits{Depth: api.MaxDepth + 1}, api.ErrArg},
		{api.Limits{Depth: math.MinInt}, api.ErrArg},
		{api.Limits{Fuel: -1, Cells: -1, Chars: -1, Depth: -1}, api.ErrArg},
	} {
		m, e := machine.New(c.l, nil)
		if e != c.want || (m == nil) != (e != api.OK) {
			t.Errorf("New(%+v): %v, %d", c.l, m != nil, e)
			continue
		}
		if e == api.OK && (m.Limits() != c.l || m.Left() != c.l.Fuel || m.Over() || m.Drawn() != 0 || m.Envs() != 0 || m.Heap().Len() != 0 || m.Heap().Used() != 0) {
			t.Errorf("New(%+v): limits %+v, %d left", c.l, m.Limits(), m.Left())
		}
	}
}

// The heap has as many cells as the limits say.
func TestMa1Cells(t *testing.T) {
	for _, cells := range []int{0, 1, 7, api.MaxCells} {
		m := made(t, api.Limits{Cells: cells})
		if h := m.Heap(); h.Take(cells+1) || !h.Take(cells) || h.Take(1) || m.Heap() != h {
			t.Errorf("a heap of %d cells: %d used", cells, h.Used())
		}
	}
}

func TestMa1Draws(t *testing.T) {
	below := math.Nextafter(1, 0)
	for _, c := range []struct {
		x  float64
		ok bool
	}{
		{0, true}, {math.Copysign(0, -1), true}, {0.5, true}, {below, true}, {math.SmallestNonzeroFloat64, true},
		{1, false}, {math.Nextafter(1, 2), false}, {-math.SmallestNonzeroFloat64, false}, {-1, false}, {math.Inf(1), false}, {math.Inf(-1), false}, {math.NaN(), false}, {none(), false},
	} {
		for _, l := range [][]float64{{c.x}, {0.25, c.x}, {c.x, 0.25}} {
			m, e := machine.New(api.Limits{}, l)
			if (e == api.OK) != c.ok || e != api.OK && (e != api.ErrArg || m != nil) {
				t.Errorf("draws %v: %d", l, e)
				continue
			}
			if c.ok {
				draw(t, m, l...)
			}
		}
	}
	draw(t, made(t, api.Limits{}))
	m := made(t, api.Limits{}, 0.5, 0.5, 0, below, 0.125)
	draw(t, m, 0.5, 0.5, 0, below, 0.125)
	if m.Over() {
		t.Error("that no draws are left is no limit")
	}
}

// draw holds all draws that are there still, to the bit, and that then there is none.
func draw(t *testing.T, m *machine.Machine, l ...float64) {
	t.Helper()
	before := m.Drawn()
	for i, want := range l {
		x, ok := m.Draw()
		if !ok || math.Float64bits(x) != math.Float64bits(want) || m.Drawn() != before+i+1 {
			t.Errorf("draw %d: %v, %v, not %v; %d drawn", i, x, ok, want, m.Drawn())
		}
	}
	for range 2 {
		if x, ok := m.Draw(); x != 0 || math.Signbit(x) || ok || m.Drawn() != before+len(l) {
			t.Errorf("behind all draws: %v, %v; %d drawn", x, ok, m.Drawn())
		}
	}
}

func TestMa1Spend(t *testing.T) {
	m := made(t, api.Limits{Fuel: 10})
	for _, c := range []struct {
		n    int
		ok   bool
		left int
		over bool
	}{
		{0, true, 10, false},
		{-1, true, 10, false},
		{math.MinInt, true, 10, false},
		{3, true, 7, false},
		{1, true, 6, false},
		{6, true, 0, false},
		{0, true, 0, false},
		{-5, true, 0, false},
		{1, false, 0, true},
		{0, false, 0, true},
		{-1, false, 0, true},
		{1, false, 0, true},
	} {
		if ok := m.Spend(c.n); ok != c.ok || m.Left() != c.left || m.Over() != c.over {
			t.Errorf("Spend(%d): %v, %d left, over: %v", c.n, ok, m.Left(), m.Over())
		}
	}
}

// If there is less than n left nothing is left.
func TestMa1SpendAll(t *testing.T) {
	for _, fuel := range []int{0, 1, 10, math.MaxInt} {
		m := made(t, api.Limits{Fuel: fuel})
		if !m.Spend(fuel) || m.Left() != 0 || m.Over() {
			t.Errorf("all of %d: %d left", fuel, m.Left())
		}
		m = made(t, api.Limits{Fuel: fuel})
		if fuel < math.MaxInt && (m.Spend(fuel+1) || m.Left() != 0 || !m.Over()) {
			t.Errorf("more than %d: %d left, over: %v", fuel, m.Left(), m.Over())
		}
		m = made(t, api.Limits{Fuel: fuel, Depth: 4})
		if m.Spend(math.MaxInt) != (fuel == math.MaxInt) || m.Left() != 0 {
			t.Errorf("most of %d: %d left", fuel, m.Left())
		}
	}
}

func TestMa1Stop(t *testing.T) {
	m := made(t, api.Limits{Fuel: 10, Cells: 10, Depth: 4}, 0.5)
	for range 2 {
		ends(t, "Stop", m.Stop(), limit())
		if !m.Over() || m.Left() != 10 || m.Spend(1) || m.Spend(11) || m.Left() != 10 {
			t.Errorf("behind Stop: over: %v, %d left", m.Over(), m.Left())
		}
	}
	if m.Limits() != (api.Limits{Fuel: 10, Cells: 10, Depth: 4}) || m.Heap() == nil {
		t.Errorf("behind Stop: %+v", m.Limits())
	}
	draw(t, m, 0.5)
}

// Draws go on as ever when the machine is over.
func TestMa1DrawOver(t *testing.T) {
	m := made(t, api.Limits{}, 0.5, 0.25)
	m.Draw()
	m.Spend(1)
	if x, ok := m.Draw(); x != 0.25 || !ok || m.Drawn() != 2 {
		t.Errorf("Draw: %v, %v", x, ok)
	}
}

// Of a Machine that New did not give there is nothing, and nothing is done to it.
func TestMa1NotGiven(t *testing.T) {
	called := func(*machine.Machine, api.Entry) api.Done { return api.Done{} }
	for _, m := range []*machine.Machine{nil, new(machine.Machine)} {
		for range 2 {
			m.Know(1, 5)
			m.Leave()
			m.SetBody(func(*machine.Machine, int, api.Value, []api.Value) api.Done { return api.Done{} })
			ends(t, "Stop", m.Stop(), limit())
			if m.Heap() != nil || m.Limits() != (api.Limits{}) || m.Left() != 0 || m.Over() || m.Drawn() != 0 || m.Envs() != 0 {
				t.Error("it has something")
			}
			if m.Spend(0) || m.Spend(-1) || m.Spend(1) || m.Enter() || m.Register(called) != 0 || m.AddCode(api.Node{}) != 0 || m.Known(1) != 0 || m.Known(-1) != 0 {
				t.Error("it does something")
			}
			if x, ok := m.Draw(); x != 0 || ok {
				t.Errorf("Draw: %v, %v", x, ok)
			}
			if n, ok := m.Code(1); n.Kind != 0 || ok {
				t.Errorf("Code: %v", ok)
			}
			if e, ok := m.Env(0); !sameEnv(e, api.Env{}) || ok {
				t.Errorf("Env: %v", ok)
			}
			for what, d := range dones(m, 0) {
				ends(t, what, d, limit())
			}
		}
	}
}

// dones are all that tell a Done, of object o, but Stop.
func dones(m *machine.Machine, o int) map[string]api.Done {
	_, made := m.Alloc(bare(-1))
	_, env := m.AddEnv(api.Env{Outer: -1, Object: -1})
	return map[string]api.Done{
		"Alloc":     made,
		"AddEnv":    env,
		"SetEnv":    m.SetEnv(0, api.Env{}),
		"no env":    m.SetEnv(-1, api.Env{}),
		"Fail":      m.Fail(api.IntErrorProto),
		"Get":       m.Get(o, wide("a"), undefined()),
		"no Get":    m.Get(-1, wide("a"), undefined()),
		"Put":       m.Put(o, wide("a"), null(), true),
		"no Put":    m.Put(-1, wide("a"), null(), false),
		"Define":    m.Define(o, wide("b"), only(null()), true),
		"no Define": m.Define(-1, wide("b"), only(null()), false),
		"Delete":    m.Delete(o, wide("a"), true),
		"no Delete": m.Delete(-1, wide("a"), false),
		"Call":      m.Call(object(o+1), undefined(), nil),
		"no Call":   m.Call(null(), undefined(), nil),
		"Construct": m.Construct(object(o+1), nil),
		"no such":   m.Construct(undefined(), nil),
	}
}

// All that tells a Done tells of a machine that is over that a limit was met, and nothing
// is done any more; some goes on.
func TestMa1Over(t *testing.T) {
	m := over(t)
	m.Heap().Prevent(1)
	all, used, left := m.Heap().All(), m.Heap().Used(), m.Left()
	for range 2 {
		for what, d := range dones(m, 0) {
			stopped(t, m, what, d)
		}
		if m.Enter() || m.Spend(0) || !m.Over() {
			t.Error("something goes on")
		}
		if !slices.EqualFunc(m.Heap().All(), all, sameObject) || m.Heap().Used() != used || m.Left() != left || m.Envs() != 0 {
			t.Errorf("something was done: %d objects, %d used, %d left", m.Heap().Len(), m.Heap().Used(), m.Left())
		}
	}
	if n := m.Register(func(*machine.Machine, api.Entry) api.Done { return api.Done{} }); n != 2 {
		t.Errorf("Register: %d", n)
	}
	if n := m.AddCode(api.Node{Kind: api.NodeFunction}); n != 1 {
		t.Errorf("AddCode: %d", n)
	}
	if n, ok := m.Code(1); n.Kind != api.NodeFunction || !ok {
		t.Errorf("Code: %d, %v", n.Kind, ok)
	}
	m.Know(api.IntGlobal, 1)
	m.Leave()
	m.SetBody(nil)
	if m.Known(api.IntGlobal) != 1 {
		t.Errorf("Known: %d", m.Known(api.IntGlobal))
	}
}

// Each number that is told beside a limit is 0.
func TestMa1OverNumbers(t *testing.T) {
	m := over(t)
	if n, _ := m.Alloc(bare(-1)); n != 0 {
		t.Errorf("Alloc: %d", n)
	}
	if n, _ := m.AddEnv(api.Env{}); n != 0 {
		t.Errorf("AddEnv: %d", n)
	}
}
