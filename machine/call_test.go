package machine_test

import (
	"math"
	"slices"
	"testing"

	"quill/api"
	"quill/machine"
)

// noFunctions are values that are none, in a machine that has objects 0, 1 and 2, none of
// which is one.
func noFunctions() []api.Value {
	return []api.Value{undefined(), null(), truth(true), number(0), narrow("a"), object(0), object(1), object(2), object(99), object(math.MaxInt)}
}

func TestMa4NoFunction(t *testing.T) {
	m := roomy(t)
	proto := alloc(t, m, bare(-1))
	alloc(t, m, array(0))
	alloc(t, m, api.Object{Class: api.ClassArguments, Proto: -1, Native: 1, Code: 1, Bound: []api.Value{object(0), null()}})
	m.Know(api.IntTypeErrorProto, proto)
	var entries []api.Entry
	native(t, m, &entries, normal(null()))
	for _, f := range noFunctions() {
		fails(t, m, "Call of "+named(f), m.Call(f, null(), []api.Value{number(1)}), proto)
		fails(t, m, "Construct of "+named(f), m.Construct(f, nil), proto)
	}
	fails(t, m, "of a number below 0", m.Call(object(-1), null(), nil), proto)
	entered(t, &entries)
	if m.Left() != wideLimits().Fuel {
		t.Errorf("%d left", m.Left())
	}
	m = made(t, api.Limits{Fuel: 1, Depth: 1})
	stopped(t, m, "no room for the error", m.Call(null(), null(), nil))
}

func TestMa4Native(t *testing.T) {
	m := roomy(t)
	var entries []api.Entry
	f := native(t, m, &entries, normal(narrow("told")))
	for _, this := range []api.Value{undefined(), number(7), object(f)} {
		for _, args := range [][]api.Value{nil, {}, {null()}, {number(1), undefined(), object(f)}} {
			left := m.Left()
			ends(t, "Call", m.Call(object(f), this, args), normal(narrow("told")))
			entered(t, &entries, api.Entry{Func: f, This: this, Args: args})
			if m.Left() != left-1 {
				t.Errorf("%d left of %d", m.Left(), left)
			}
		}
	}
}

// How a call ends, by what it entered.
func TestMa4Ends(t *testing.T) {
	label := wide("x")
	for _, c := range []struct{ told, want api.Done }{
		{normal(number(1)), normal(number(1))},
		{normal(undefined()), normal(undefined())},
		{api.Done{Value: number(1), Label: label}, normal(number(1))},
		{thrown(number(1)), thrown(number(1))},
		{api.Done{Kind: api.DoneThrow, Value: null(), Label: label}, thrown(null())},
		{api.Done{Kind: api.DoneReturn, Value: number(1)}, normal(number(1))},
		{api.Done{Kind: api.DoneReturn, Value: number(1), Label: label}, normal(number(1))},
		{api.Done{Kind: api.DoneReturn}, normal(undefined())},
		{api.Done{Kind: api.DoneBreak, Value: number(1), Label: label}, normal(undefined())},
		{api.Done{Kind: api.DoneBreak, Value: api.Value{Kind: api.KindEmpty}}, normal(undefined())},
		{api.Done{Kind: api.DoneContinue, Value: number(1), Label: label}, normal(undefined())},
		{limit(), limit()},
		{api.Done{Kind: api.DoneLimit, Value: number(1), Label: label}, limit()},
	} {
		m := roomy(t)
		var entries []api.Entry
		f := native(t, m, &entries, c.told)
		m.SetBody(func(*machine.Machine, int, api.Value, []api.Value) api.Done { return c.told })
		g := alloc(t, m, codeOf(1))
		b := alloc(t, m, boundOf(object(f), null()))
		for _, o := range []int{f, g, b} {
			ends(t, "Call", m.Call(object(o), null(), nil), c.want)
			if m.Over() != (c.want.Kind == api.DoneLimit) {
				t.Errorf("%s: over: %v", shown(c.told), m.Over())
			}
		}
	}
}

// When a native turns a blind eye to a limit, its call does not.
func TestMa4EndsOver(t *testing.T) {
	for _, told := range []api.Done{normal(number(1)), thrown(null()), {Kind: api.DoneReturn}} {
		m := made(t, api.Limits{Fuel: 5, Cells: 100, Depth: 10})
		deep := alloc(t, m, nativeOf(m.Register(func(m *machine.Machine, _ api.Entry) api.Done {
			m.Spend(100)
			return told
		})))
		f := alloc(t, m, nativeOf(m.Register(func(m *machine.Machine, _ api.Entry) api.Done {
			m.Call(object(deep), null(), nil)
			return told
		}), keyed("prototype", plain(null(), ""))))
		stopped(t, m, "Call", m.Call(object(f), null(), nil))
		stopped(t, m, "Construct", m.Construct(object(f), nil))
	}
}

// bodies sets a function for bodies that remembers what it was entered with.
func bodies(m *machine.Machine, entries *[]api.Entry, d api.Done) {
	m.SetBody(func(_ *machine.Machine, f int, this api.Value, args []api.Value) api.Done {
		*entries = append(*entries, api.Entry{Func: f, This: this, Args: args})
		return d
	})
}

func TestMa4Code(t *testing.T) {
	m := roomy(t)
	alloc(t, m, bare(-1))
	var first, second []api.Entry
	f := alloc(t, m, codeOf(5))
	ends(t, "without a function for bodies", m.Call(object(f), null(), nil), normal(undefined()))
	bodies(m, &first, normal(number(1)))
	args := []api.Value{number(2), null()}
	ends(t, "Call", m.Call(object(f), number(3), args), normal(number(1)))
	entered(t, &first, api.Entry{Func: f, This: number(3), Args: args})
	bodies(m, &second, thrown(number(4)))
	ends(t, "another function for bodies", m.Call(object(f), undefined(), nil), thrown(number(4)))
	entered(t, &first)
	entered(t, &second, api.Entry{Func: f})
	m.SetBody(nil)
	ends(t, "none any more", m.Call(object(f), null(), nil), normal(undefined()))
	entered(t, &second)
	if m.Left() != wideLimits().Fuel-4 {
		t.Errorf("%d left", m.Left())
	}
}

// A function is what it has first: Bound, Native, Code.
func TestMa4First(t *testing.T) {
	m := roomy(t)
	var entries, body []api.Entry
	f := native(t, m, &entries, normal(narrow("native")))
	bodies(m, &body, normal(narrow("body")))
	g := alloc(t, m, codeOf(9))
	two, one := []api.Value{object(g), null()}, []api.Value{object(g)}
	for _, c := range []struct {
		bound        []api.Value
		native, code int
		want         api.Value
		fuel         int
	}{
		{nil, 0, 0, undefined(), 1},
		{one, 0, 0, undefined(), 1},
		{nil, 1, 0, narrow("native"), 1},
		{nil, 2, 0, undefined(), 1},
		{nil, math.MaxInt, 0, undefined(), 1},
		{nil, 0, 1, narrow("body"), 1},
		{nil, 0, math.MaxInt, narrow("body"), 1},
		{nil, 1, 1, narrow("native"), 1},
		{nil, 2, 1, narrow("body"), 1},
		{one, 1, 1, narrow("native"), 1},
		{one, 0, 1, narrow("body"), 1},
		{two, 0, 0, narrow("body"), 2},
		{two, 1, 1, narrow("body"), 2},
		{[]api.Value{object(f), null()}, 0, 1, narrow("native"), 2},
	} {
		o := alloc(t, m, api.Object{Class: api.ClassFunction, Proto: -1, Bound: c.bound, Native: c.native, Code: c.code})
		left := m.Left()
		ends(t, "Call", m.Call(object(o), undefined(), nil), normal(c.want))
		if m.Left() != left-c.fuel {
			t.Errorf("%+v: %d of fuel were spent", c, left-m.Left())
		}
	}
}

// Natives and functions for bodies that are none are no reason to panic.
func TestMa4NoneGiven(t *testing.T) {
	m := roomy(t)
	n := m.Register(nil)
	if n != 1 {
		t.Errorf("Register: %d", n)
	}
	f := alloc(t, m, nativeOf(n, keyed("prototype", plain(null(), ""))))
	ends(t, "Call", m.Call(object(f), null(), nil), normal(undefined()))
	ends(t, "Construct", m.Construct(object(f), nil), normal(undefined()))
}

func TestMa4Bound(t *testing.T) {
	m := roomy(t)
	var entries []api.Entry
	f := native(t, m, &entries, normal(narrow("told")))
	b := alloc(t, m, boundOf(object(f), number(1), number(2), number(3)))
	c := alloc(t, m, boundOf(object(b), number(4), number(5)))
	none := alloc(t, m, boundOf(object(f), undefined()))
	for _, l := range []struct {
		o    int
		args []api.Value
		want api.Entry
		fuel int
	}{
		{b, nil, api.Entry{This: number(1), Args: []api.Value{number(2), number(3)}}, 2},
		{b, []api.Value{number(9)}, api.Entry{This: number(1), Args: []api.Value{number(2), number(3), number(9)}}, 2},
		{c, []api.Value{number(9), null()}, api.Entry{This: number(1), Args: []api.Value{number(2), number(3), number(5), number(9), null()}}, 3},
		{none, nil, api.Entry{}, 2},
		{none, []api.Value{null()}, api.Entry{Args: []api.Value{null()}}, 2},
	} {
		left := m.Left()
		l.want.Func = f
		ends(t, "Call", m.Call(object(l.o), narrow("this"), l.args), normal(narrow("told")))
		entered(t, &entries, l.want)
		if m.Left() != left-l.fuel {
			t.Errorf("%d: %d of fuel were spent", l.o, left-m.Left())
		}
	}
	bad := alloc(t, m, boundOf(number(1), null(), null()))
	left := m.Left()
	fails(t, m, "a bound number", m.Call(object(bad), null(), nil), -1)
	if m.Left() != left-1 {
		t.Errorf("a bound number: %d of fuel were spent", left-m.Left())
	}
}

// chain makes n functions, each but the first one bound to the one ahead, with itself as
// the argument, and tells the last one.
func chain(t *testing.T, m *machine.Machine, first api.Object, n int) int {
	t.Helper()
	o := alloc(t, m, first)
	for i := 1; i < n; i++ {
		o = alloc(t, m, boundOf(object(o), null(), number(float64(i))))
	}
	return o
}

// Each of a chain of bound functions is called, so a call of it is as deep as it is long.
func TestMa4BoundDepth(t *testing.T) {
	for n := 1; n <= 6; n++ {
		for depth := range 7 {
			for fuel := range 8 {
				m := made(t, api.Limits{Fuel: fuel, Cells: 100, Depth: depth})
				k := m.Register(func(*machine.Machine, api.Entry) api.Done { return normal(null()) })
				d := m.Call(object(chain(t, m, nativeOf(k), n)), null(), nil)
				if fuel < n || depth < n {
					stopped(t, m, "Call", d)
				} else {
					ends(t, "Call", d, normal(null()))
				}
				if spent := min(fuel, n, depth+1); m.Left() != fuel-spent {
					t.Errorf("%d of depth %d: %d of %d left", n, depth, m.Left(), fuel)
				}
			}
		}
	}
}

// A ring of bound functions is called till a limit is met.
func TestMa4BoundRing(t *testing.T) {
	for _, l := range []api.Limits{{Fuel: 1000, Cells: 10, Depth: 20}, {Fuel: 9, Cells: 10, Depth: 20}} {
		m := made(t, l)
		alloc(t, m, boundOf(object(1), null()))
		alloc(t, m, boundOf(object(0), null()))
		stopped(t, m, "Call", m.Call(object(0), null(), nil))
		if left := max(l.Fuel-21, 0); m.Left() != left || m.Heap().Len() != 2 {
			t.Errorf("%d left, not %d", m.Left(), left)
		}
	}
}

// deepest makes a function that calls itself, n times in all, as often as that goes.
func deepest(t *testing.T, m *machine.Machine, n int) (int, *int) {
	t.Helper()
	most, now := new(int), 0
	f := m.Heap().Len()
	return alloc(t, m, nativeOf(m.Register(func(m *machine.Machine, e api.Entry) api.Done {
		now++
		*most = max(*most, now)
		if now < n {
			m.Call(object(f), null(), nil)
		}
		now--
		return normal(number(float64(now)))
	}))), most
}

func TestMa4Depth(t *testing.T) {
	for _, depth := range []int{0, 1, 2, 20, api.MaxDepth} {
		for _, n := range []int{depth, depth + 1, depth + 5} {
			m := made(t, api.Limits{Fuel: 1000, Cells: 10, Depth: depth})
			f, most := deepest(t, m, max(n, 1))
			d := m.Call(object(f), null(), nil)
			if n > depth || depth == 0 {
				stopped(t, m, "Call", d)
			} else {
				ends(t, "Call", d, normal(number(0)))
			}
			if *most != min(n, depth) {
				t.Errorf("depth %d: %d deep", depth, *most)
			}
		}
	}
}

// Calls one behind the other are not deep.
func TestMa4DepthEnds(t *testing.T) {
	m := made(t, api.Limits{Fuel: 1000, Cells: 1000, Depth: 2})
	var entries []api.Entry
	f := native(t, m, &entries, normal(null()))
	g := native(t, m, &entries, thrown(null()))
	b := alloc(t, m, boundOf(object(g), null()))
	p := alloc(t, m, codeOf(1))
	for range 20 {
		ends(t, "Call", m.Call(object(f), null(), nil), normal(null()))
		ends(t, "Call", m.Call(object(b), null(), nil), thrown(null()))
		m.Call(null(), null(), nil)
		m.Construct(object(f), nil)
		if d := m.Construct(object(p), nil); d.Kind != api.DoneNormal {
			t.Fatal(shown(d))
		}
	}
}

func TestMa4Enter(t *testing.T) {
	for _, depth := range []int{0, 1, 2, 20, api.MaxDepth} {
		m := made(t, api.Limits{Depth: depth})
		for range 2 * depth {
			m.Enter()
			m.Leave()
		}
		for range 3 {
			m.Leave()
		}
		for i := range depth {
			if !m.Enter() || m.Over() {
				t.Errorf("depth %d: nesting %d", depth, i)
			}
		}
		if m.Enter() || !m.Over() {
			t.Errorf("depth %d: one too many", depth)
		}
		m.Leave()
		if m.Enter() || !m.Over() || m.Left() != 0 {
			t.Errorf("depth %d: over", depth)
		}
	}
}

// Nestings count like calls, and calls like nestings.
func TestMa4EnterCalls(t *testing.T) {
	const depth = 3
	for nested := range depth + 1 {
		for inside := range depth + 1 {
			m := made(t, api.Limits{Fuel: 100, Cells: 10, Depth: depth})
			entries, all := 0, true
			f := alloc(t, m, nativeOf(m.Register(func(m *machine.Machine, _ api.Entry) api.Done {
				entries++
				for range inside {
					all = m.Enter() && all
				}
				for range inside {
					m.Leave()
				}
				return normal(null())
			})))
			for range nested {
				m.Enter()
			}
			d := m.Call(object(f), null(), nil)
			fits := nested+1+inside <= depth
			if fits != (d.Kind == api.DoneNormal) || fits == m.Over() || (entries == 1) != (nested < depth) || nested < depth && all != fits {
				t.Errorf("%d nestings, %d inside: %s, entered %d times", nested, inside, shown(d), entries)
			}
			if m.Left() != 99 {
				t.Errorf("%d left", m.Left())
			}
		}
	}
}

// Leave ends nestings, no calls: they are under way all the same.
func TestMa4LeaveCalls(t *testing.T) {
	m := made(t, api.Limits{Fuel: 1000000, Cells: 10, Depth: 50})
	most, now := 0, 0
	f := m.Heap().Len()
	alloc(t, m, nativeOf(m.Register(func(m *machine.Machine, _ api.Entry) api.Done {
		now++
		most = max(most, now)
		for range 3 {
			m.Leave()
		}
		d := m.Call(object(f), null(), nil)
		now--
		return d
	})))
	stopped(t, m, "Call", m.Call(object(f), null(), nil))
	if most != 50 {
		t.Errorf("%d deep", most)
	}
}

// Of a call that can't be fuel is spent all the same; first comes that there is no function.
func TestMa4Order(t *testing.T) {
	m := made(t, api.Limits{Fuel: 5, Cells: 10})
	var entries []api.Entry
	f := native(t, m, &entries, normal(null()))
	fails(t, m, "a call of nothing", m.Call(null(), null(), nil), -1)
	fails(t, m, "a new nothing", m.Construct(null(), nil), -1)
	fails(t, m, "without prototype", m.Construct(object(f), nil), -1)
	if m.Left() != 5 {
		t.Errorf("%d left", m.Left())
	}
	stopped(t, m, "too deep", m.Call(object(f), null(), nil))
	if m.Left() != 4 {
		t.Errorf("%d left", m.Left())
	}
	entered(t, &entries)
}

func TestMa4ConstructNative(t *testing.T) {
	m := roomy(t)
	var entries []api.Entry
	proto := alloc(t, m, bare(-1, keyed("prototype", plain(null(), ""))))
	m.Know(api.IntTypeErrorProto, proto)
	n := m.Register(func(_ *machine.Machine, e api.Entry) api.Done {
		entries = append(entries, e)
		return normal(number(5))
	})
	args := []api.Value{number(1), null()}
	for _, p := range []api.Prop{plain(undefined(), ""), plain(object(proto), ""), plain(object(99), "w"), pair(object(0), undefined(), "")} {
		f := alloc(t, m, nativeOf(n, keyed("prototype", p)))
		objects, left := m.Heap().Len(), m.Left()
		ends(t, "Construct", m.Construct(object(f), args), normal(number(5)))
		entered(t, &entries, api.Entry{Func: f, Args: args, New: true})
		ends(t, "Call", m.Call(object(f), null(), args), normal(number(5)))
		entered(t, &entries, api.Entry{Func: f, This: null(), Args: args})
		if m.Heap().Len() != objects || m.Left() != left-2 {
			t.Errorf("%d objects, %d left", m.Heap().Len(), m.Left())
		}
	}
	f := nativeOf(n)
	fails(t, m, "without prototype", m.Construct(object(alloc(t, m, f)), args), proto)
	f.Proto = proto
	fails(t, m, "with one up the prototypes", m.Construct(object(alloc(t, m, f)), args), proto)
	entered(t, &entries)
}

// How a call of a native ends, by new, is how its construction ends.
func TestMa4ConstructEnds(t *testing.T) {
	for _, c := range []struct{ told, want api.Done }{
		{thrown(null()), thrown(null())},
		{api.Done{Kind: api.DoneReturn, Value: number(1)}, normal(number(1))},
		{api.Done{Kind: api.DoneBreak, Label: wide("x")}, normal(undefined())},
		{limit(), limit()},
	} {
		m := roomy(t)
		f := alloc(t, m, nativeOf(m.Register(func(*machine.Machine, api.Entry) api.Done { return c.told }), keyed("prototype", plain(null(), ""))))
		ends(t, "Construct", m.Construct(object(f), nil), c.want)
	}
	m := made(t, api.Limits{Cells: 10, Depth: 1})
	f := alloc(t, m, nativeOf(m.Register(nil), keyed("prototype", plain(null(), ""))))
	stopped(t, m, "without fuel", m.Construct(object(f), nil))
	m = made(t, api.Limits{Fuel: 1, Cells: 10})
	f = alloc(t, m, nativeOf(m.Register(nil), keyed("prototype", plain(null(), ""))))
	stopped(t, m, "without depth", m.Construct(object(f), nil))
}

// constructs holds a construction by a function with a body: which prototype what is made
// has, and what is told.
func constructs(t *testing.T, f api.Object, known, proto int, told api.Done) {
	t.Helper()
	m := roomy(t)
	var entries []api.Entry
	for range 3 {
		alloc(t, m, bare(-1))
	}
	get := native(t, m, &entries, normal(object(2)))
	m.Know(api.IntObjectProto, known)
	bodies(m, &entries, told)
	o := alloc(t, m, f)
	args := []api.Value{number(1), object(get)}
	d := m.Construct(object(o), args)
	made := o + 1
	want := told
	if told.Kind == api.DoneNormal && told.Value.Kind != api.KindObject {
		want = normal(object(made))
	}
	ends(t, "Construct", d, want)
	if x, _ := m.Heap().Object(made); m.Heap().Len() != made+1 || !sameObject(x, bare(proto)) {
		t.Errorf("made: %+v, not of prototype %d", x, proto)
	}
	if f.Code > 0 {
		entered(t, &entries, api.Entry{Func: o, This: object(made), Args: args})
	}
	if m.Left() != wideLimits().Fuel-1 {
		t.Errorf("%d left", m.Left())
	}
}

func TestMa4ConstructOthers(t *testing.T) {
	is := func(v api.Value) api.Keyed { return keyed("prototype", plain(v, "w")) }
	for _, told := range []api.Done{normal(undefined()), normal(number(1)), normal(narrow("x")), normal(object(0)), normal(object(99)), thrown(null()), thrown(object(1))} {
		constructs(t, codeOf(1, is(object(1))), 0, 1, told)
		constructs(t, codeOf(1), 0, 0, told)
	}
	for _, v := range []api.Value{undefined(), null(), number(1), narrow("a"), truth(true)} {
		constructs(t, codeOf(1, is(v)), 0, 0, normal(null()))
		constructs(t, codeOf(1, is(v)), -1, -1, normal(null()))
	}
	constructs(t, codeOf(1), 2, 2, normal(null()))
	constructs(t, nativeOf(0), 2, 2, normal(undefined()))
	constructs(t, nativeOf(9, is(object(1))), 2, 1, normal(undefined()))
	constructs(t, boundOf(object(3)), 2, 2, normal(undefined()))
	constructs(t, api.Object{Class: api.ClassFunction, Proto: -1, Code: 1, Native: 9, Bound: []api.Value{null()}}, 2, 2, normal(null()))
	up := codeOf(1)
	up.Proto = 0
	constructs(t, up, 1, 1, normal(null()))
}

// The property `prototype` is asked by Get: up the prototypes, and by a getter.
func TestMa4ConstructGet(t *testing.T) {
	m := roomy(t)
	var entries []api.Entry
	wanted := alloc(t, m, bare(-1))
	get := native(t, m, &entries, normal(object(wanted)))
	bad := native(t, m, &entries, thrown(narrow("bad")))
	up := alloc(t, m, bare(-1, keyed("prototype", pair(object(get), undefined(), ""))))
	f := codeOf(1)
	f.Proto = up
	o := alloc(t, m, f)
	ends(t, "Construct", m.Construct(object(o), nil), normal(object(o+1)))
	entered(t, &entries, api.Entry{Func: get, This: object(o)})
	if x, _ := m.Heap().Object(o + 1); !sameObject(x, bare(wanted)) || m.Left() != wideLimits().Fuel-2 {
		t.Errorf("made: %+v, %d left", x, m.Left())
	}
	o = alloc(t, m, codeOf(1, keyed("prototype", pair(object(bad), undefined(), ""))))
	ends(t, "Construct", m.Construct(object(o), nil), thrown(narrow("bad")))
	entered(t, &entries, api.Entry{Func: bad, This: object(o)})
	if m.Heap().Len() != o+1 {
		t.Errorf("%d objects", m.Heap().Len())
	}
}

func TestMa4ConstructLimits(t *testing.T) {
	is := func(v api.Value) api.Keyed { return keyed("prototype", plain(v, "w")) }
	for _, c := range []struct {
		what  string
		l     api.Limits
		f     api.Object
		known int
	}{
		{"a prototype that is not there", wideLimits(), codeOf(1, is(object(99))), -1},
		{"itself not yet made", wideLimits(), codeOf(1, is(object(1))), -1},
		{"a known one that is not there", wideLimits(), codeOf(1), 99},
		{"no cell", api.Limits{Fuel: 9, Cells: 1, Depth: 9}, codeOf(1), -1},
		{"no fuel", api.Limits{Cells: 9, Depth: 9}, codeOf(1), -1},
		{"no depth", api.Limits{Fuel: 9, Cells: 9}, codeOf(1), -1},
	} {
		m := made(t, c.l)
		var entries []api.Entry
		bodies(m, &entries, normal(null()))
		o := alloc(t, m, c.f)
		m.Know(api.IntObjectProto, c.known)
		stopped(t, m, c.what, m.Construct(object(o), nil))
		entered(t, &entries)
	}
	m := made(t, api.Limits{Fuel: 9, Cells: 9, Depth: 9})
	m.SetBody(func(m *machine.Machine, _ int, _ api.Value, _ []api.Value) api.Done { return m.Stop() })
	stopped(t, m, "the body", m.Construct(object(alloc(t, m, codeOf(1))), nil))
	m = made(t, api.Limits{Fuel: 9, Cells: 9, Depth: 9})
	get := alloc(t, m, nativeOf(m.Register(func(m *machine.Machine, _ api.Entry) api.Done { return m.Stop() })))
	o := alloc(t, m, codeOf(1, keyed("prototype", pair(object(get), undefined(), ""))))
	stopped(t, m, "the getter", m.Construct(object(o), nil))
	if m.Heap().Len() != 2 {
		t.Errorf("%d objects", m.Heap().Len())
	}
}

func TestMa4ConstructBound(t *testing.T) {
	m := roomy(t)
	var entries, body []api.Entry
	f := native(t, m, &entries, normal(narrow("told")))
	m.Define(f, wide("prototype"), only(null()), true)
	proto := alloc(t, m, bare(-1))
	g := alloc(t, m, codeOf(1, keyed("prototype", plain(object(proto), ""))))
	bodies(m, &body, normal(null()))
	want := []api.Value{number(2), number(3), number(5), number(9), null()}
	for _, o := range []int{f, g} {
		b := alloc(t, m, boundOf(object(o), number(1), number(2), number(3)))
		c := alloc(t, m, boundOf(object(b), number(4), number(5)))
		d := alloc(t, m, boundOf(object(c), number(6)))
		m.Define(d, wide("prototype"), only(object(0)), true)
		left := m.Left()
		told := m.Construct(object(d), []api.Value{number(9), null()})
		if o == f {
			ends(t, "Construct", told, normal(narrow("told")))
			entered(t, &entries, api.Entry{Func: f, Args: want, New: true})
		} else {
			ends(t, "Construct", told, normal(object(d+1)))
			entered(t, &body, api.Entry{Func: g, This: object(d + 1), Args: want})
			if x, _ := m.Heap().Object(d + 1); x.Proto != proto {
				t.Errorf("made: %+v", x)
			}
		}
		if m.Left() != left-1 {
			t.Errorf("%d of fuel were spent", left-m.Left())
		}
	}
}

// What bound functions lead to may be none, or a native without `prototype`.
func TestMa4ConstructBoundNone(t *testing.T) {
	m := roomy(t)
	proto := alloc(t, m, bare(-1))
	m.Know(api.IntTypeErrorProto, proto)
	var entries []api.Entry
	f := native(t, m, &entries, normal(null()))
	for _, v := range []api.Value{null(), number(0), object(proto), object(99), object(f)} {
		b := alloc(t, m, boundOf(v, null()))
		m.Define(b, wide("prototype"), only(null()), true)
		c := alloc(t, m, boundOf(object(b), null(), null()))
		fails(t, m, "bound to "+named(v), m.Construct(object(b), nil), proto)
		fails(t, m, "bound to "+named(v)+" twice", m.Construct(object(c), nil), proto)
	}
	entered(t, &entries)
}

// Rings of all lengths, with ways of all lengths that lead to them.
func TestMa4ConstructRing(t *testing.T) {
	for ring := 1; ring < 6; ring++ {
		for way := range 4 {
			m := roomy(t)
			for i := range ring {
				alloc(t, m, boundOf(object((i+1)%ring), null(), null()))
			}
			for i := range way {
				alloc(t, m, boundOf(object(ring+i-1), null(), null()))
			}
			for o := range ring + way {
				fails(t, m, "Construct", m.Construct(object(o), nil), -1)
			}
			if m.Left() != wideLimits().Fuel {
				t.Errorf("%d left", m.Left())
			}
		}
	}
}

// Bound functions that construct are no calls, however many they are.
func TestMa4ConstructBoundLong(t *testing.T) {
	const n = 200000
	m := made(t, api.Limits{Fuel: 1, Cells: n + 2, Depth: 1})
	var entries []api.Entry
	bodies(m, &entries, normal(null()))
	f := chain(t, m, codeOf(1), n)
	ends(t, "Construct", m.Construct(object(f), []api.Value{null()}), normal(object(n)))
	if len(entries) != 1 || len(entries[0].Args) != n || !slices.EqualFunc(entries[0].Args[:3], []api.Value{number(1), number(2), number(3)}, alike) || !alike(entries[0].Args[n-1], null()) {
		t.Fatal("entered with something else")
	}
}

// Example 1.
func TestMa4Example1(t *testing.T) {
	m := made(t, api.Limits{Fuel: 1, Cells: 1, Depth: 1})
	var entries []api.Entry
	f := native(t, m, &entries, normal(null()))
	ends(t, "Call", m.Call(object(f), null(), nil), normal(null()))
	entered(t, &entries, api.Entry{Func: f, This: null()})
	stopped(t, m, "the next one", m.Call(object(f), null(), nil))
	entered(t, &entries)
}

// Example 2.
func TestMa4Example2(t *testing.T) {
	m := roomy(t)
	var entries []api.Entry
	f := native(t, m, &entries, normal(null()))
	proto := alloc(t, m, bare(-1))
	m.Know(api.IntTypeErrorProto, proto)
	b := alloc(t, m, boundOf(object(f), null()))
	fails(t, m, "Construct", m.Construct(object(b), nil), proto)
	entered(t, &entries)
}
