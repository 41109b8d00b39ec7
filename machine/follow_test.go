package machine_test

import (
	"slices"
	"testing"

	"quill/api"
	"quill/machine"
)

// played is a machine of limits to which drawn things were done.
func played(t *testing.T, l api.Limits, seed uint64) *player {
	t.Helper()
	p := machineSide(t, l, seed)
	for range 60 {
		p.turn()
	}
	return p
}

// drawnLimits are some, drawn.
func drawnLimits(draw func() uint64) api.Limits {
	return api.Limits{Fuel: pick(draw, 10, 50, 300, 1000), Cells: pick(draw, 30, 100, 1000), Chars: pick(draw, 0, 100), Depth: pick(draw, 1, 2, 4, 10)}
}

// With more of each limit the same is told, up to where a limit was met.
func TestMa6More(t *testing.T) {
	draw := draws(61)
	whole, cut := 0, 0
	for i := range uint64(1500) {
		l := drawnLimits(draw)
		less := played(t, l, i)
		greater := api.Limits{Fuel: l.Fuel + pick(draw, 0, 1, 1000), Cells: l.Cells + pick(draw, 0, 1, 1000), Chars: l.Chars + 10, Depth: l.Depth + pick(draw, 0, 1, 10)}
		more := played(t, greater, i)
		if less.r.Over() != (less.until >= 0) {
			t.Fatalf("over: %v, told from %d on", less.r.Over(), less.until)
		}
		want := less.log
		if less.r.Over() {
			cut++
			want = want[:less.until]
		} else if whole++; more.r.Over() || !slices.EqualFunc(less.r.Heap().All(), more.r.Heap().All(), sameObject) || l.Fuel-less.r.Left() != greater.Fuel-more.r.Left() {
			t.Fatalf("%d: with more limits it is over, or has other objects, or spent something else", i)
		}
		if len(more.log) < len(want) || !slices.Equal(more.log[:len(want)], want) {
			t.Fatalf("%d: with more limits something else is told", i)
		}
	}
	if whole < 300 || cut < 300 {
		t.Errorf("%d without a limit, %d with one", whole, cut)
	}
}

// Of a machine that is over nothing turns.
func TestMa6Over(t *testing.T) {
	draw := draws(62)
	turned := 0
	for i := range uint64(600) {
		p := machineSide(t, drawnLimits(draw), i)
		for range 40 {
			was, left, used, all, envs := p.r.Over(), p.r.Left(), p.r.Heap().Used(), p.r.Heap().All(), p.r.Envs()
			from := len(p.log)
			switch p.draw() % 3 {
			case 0: // what the player does to the heap itself is not the machine's
				p.note("Call", p.r.Call(p.function(), p.value(), p.values()))
			case 1:
				p.note("Construct", p.r.Construct(p.function(), p.values()))
			default:
				_, d := p.r.Alloc(p.anObject())
				p.note("Alloc", d)
			}
			if !was {
				continue
			}
			turned++
			if !p.r.Over() || p.r.Left() != left || p.r.Heap().Used() != used || p.r.Envs() != envs || !slices.EqualFunc(p.r.Heap().All(), all, sameObject) || len(p.log) != from+1 {
				t.Fatalf("it turned: %q", p.log[from:])
			}
		}
	}
	if turned < 1000 {
		t.Errorf("%d times", turned)
	}
}

// Get, Put and Define of objects without accessors call nothing.
func TestMa6NoCalls(t *testing.T) {
	draw := draws(63)
	for range 300 {
		m := made(t, api.Limits{Cells: 500})
		n := m.Register(func(*machine.Machine, api.Entry) api.Done {
			t.Error("a native was entered")
			return api.Done{}
		})
		for range 4 {
			o := pick(draw, bare(m.Heap().Len()-1), nativeOf(n), array(3), fixed(bare(m.Heap().Len()-1, keyed("a", plain(null(), "")))))
			alloc(t, m, o)
		}
		for range 30 {
			o, key, v := int(draw()%5), wide(pick(draw, "a", "b", "0", "length")), pick(draw, null(), number(2), object(0), object(1))
			m.Get(o, key, v)
			m.Put(o, key, v, draw()%2 == 0)
			m.Define(o, key, plain(v, pick(draw, "", "w", "wc", "wec")), draw()%2 == 0)
			m.Delete(o, key, draw()%2 == 0)
		}
		if m.Over() || m.Left() != 0 {
			t.Fatal("a limit was met")
		}
	}
}

// Calls within calls are at most Depth deep, of whatever sort they are.
func TestMa6Depth(t *testing.T) {
	draw := draws(64)
	deep := 0
	for range 400 {
		depth := pick(draw, 0, 1, 2, 5, 12)
		m := made(t, api.Limits{Fuel: 300, Cells: 2000, Depth: depth})
		now, most := 0, 0
		some := func() api.Value { return object(int(draw() % uint64(m.Heap().Len()))) }
		does := func() api.Done {
			now++
			most = max(most, now)
			d := api.Done{Value: some()}
			switch draw() % 8 {
			case 0, 1:
				d = m.Call(some(), some(), nil)
			case 2, 3:
				d = m.Construct(some(), nil)
			case 4:
				d = m.Get(some().O, wide("a"), some())
			case 5:
				d = m.Put(some().O, wide("a"), some(), true)
			case 6:
				m.Enter()
			case 7:
				m.Leave()
				m.Leave()
				d = m.Call(some(), some(), nil)
			}
			now--
			return d
		}
		n := m.Register(func(*machine.Machine, api.Entry) api.Done { return does() })
		m.SetBody(func(*machine.Machine, int, api.Value, []api.Value) api.Done { return does() })
		for i := range 12 {
			f := pick(draw, nativeOf(n, keyed("prototype", plain(null(), ""))), codeOf(1), boundOf(object(i+1), null()))
			if draw()%2 == 0 && len(f.Bound) == 0 {
				f.Props = append(f.Props, keyed("a", pair(early(i), early(i), "")))
			}
			alloc(t, m, f)
		}
		for range 10 {
			m.Call(some(), null(), nil)
			m.Construct(some(), nil)
		}
		if most > depth || now != 0 {
			t.Fatalf("%d deep, not %d", most, depth)
		}
		if most == depth {
			deep++
		}
	}
	if deep < 100 {
		t.Errorf("%d times as deep as may be", deep)
	}
}

// early is one of the objects up to i.
func early(i int) api.Value { return object(i / 2) }
