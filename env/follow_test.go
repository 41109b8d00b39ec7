package env_test

import (
	"slices"
	"strconv"
	"testing"

	"quill/api"
	"quill/env"
	"quill/machine"
)

// frame is a scope as one has it in mathematics: names told by what they were set to last.
type frame struct {
	outer *frame
	env   int
	told  map[string]float64
	still map[string]bool // can't be set
}

// of is the nearest frame that has a name; nil: none has.
func (f *frame) of(name string) *frame {
	for ; f != nil; f = f.outer {
		if _, ok := f.told[name]; ok {
			return f
		}
	}
	return nil
}

// grow makes an environment of a frame around another one: declarative, or of an object.
func grow(t *testing.T, m *machine.Machine, outer *frame, ofObject bool) *frame {
	t.Helper()
	around, object := -1, -1
	if outer != nil {
		around = outer.env
	}
	if ofObject {
		object = alloc(t, m, bare(-1))
	}
	n, d := env.New(m, around, object)
	ends(t, "New", d, normal(undefined()))
	return &frame{outer: outer, env: n, told: map[string]float64{}, still: map[string]bool{}}
}

// An inner name hides outer ones; what is set is told until it is set again; environments
// of other chains stay as they are: on drawn trees of environments.
func TestEn4Frames(t *testing.T) {
	draw := draws(154)
	hidden, set, kept, unknown := 0, 0, 0, 0
	for range 60 {
		m := made(t, api.Limits{Cells: 100000})
		frames := []*frame{grow(t, m, nil, draw()%2 == 0)}
		for i := range 300 {
			f := frames[draw()%uint64(len(frames))]
			name := pick(draw, "a", "b", "c", "d", "e")
			x := float64(i)
			switch draw() % 8 {
			case 0:
				if len(frames) < 12 {
					frames = append(frames, grow(t, m, f, draw()%3 == 0))
				}
			case 1, 2:
				if _, ok := f.told[name]; ok {
					break
				}
				e, _ := m.Env(f.env)
				mutable := e.Object >= 0 || draw()%4 > 0
				ends(t, "Create", env.Create(m, f.env, wide(name), mutable), normal(undefined()))
				if mutable {
					ends(t, "Set", env.Set(m, f.env, wide(name), number(x)), normal(undefined()))
				} else {
					ends(t, "Init", env.Init(m, f.env, wide(name), number(x)), normal(undefined()))
				}
				f.told[name], f.still[name] = x, !mutable
			default:
				d := env.Assign(m, f.env, wide(name), number(x))
				g := f.of(name)
				if g == nil || g.still[name] {
					unknown++
					if d.Kind != api.DoneThrow {
						t.Fatalf("Assign: %s", shown(d))
					}
					break
				}
				ends(t, "Assign", d, normal(undefined()))
				set++
				g.told[name] = x
				if g.outer.of(name) != nil {
					hidden++
				}
			}
			kept += holdFrames(t, m, frames)
		}
	}
	if hidden < 300 || set < 2000 || unknown < 1000 || kept < 50000 {
		t.Errorf("hidden %d times, set %d, unknown %d, kept %d", hidden, set, unknown, kept)
	}
}

// holdFrames holds that all frames tell what they should, and how many names that are.
func holdFrames(t *testing.T, m *machine.Machine, frames []*frame) int {
	t.Helper()
	n := 0
	for _, f := range frames {
		for _, name := range []string{"a", "b", "c", "d", "e"} {
			g, want := f.of(name), -1
			if g != nil {
				want = g.env
				n++
				ends(t, "Lookup of "+name, env.Lookup(m, f.env, wide(name)), normal(number(g.told[name])))
			}
			if k := env.Find(m, f.env, wide(name)); k != want {
				t.Fatalf("Find(%d, %q) = %d, not %d", f.env, name, k, want)
			}
			if _, ok := f.told[name]; ok != env.Has(m, f.env, wide(name)) {
				t.Fatalf("Has(%d, %q) = %v", f.env, name, !ok)
			}
		}
	}
	return n
}

// Each call turns at most the one environment that it is told of, or finds.
func TestEn4Others(t *testing.T) {
	draw := draws(155)
	turned := 0
	for range 200 {
		m := roomy(t)
		for i := range 6 {
			n := scope(t, m, int(draw()%uint64(i+1))-1)
			for _, name := range []string{"a", "b", "c"} {
				if draw()%2 == 0 {
					env.Create(m, n, wide(name), draw()%2 == 0)
				}
			}
		}
		for range 30 {
			n, name := int(draw()%6), wide(pick(draw, "a", "b", "c", "d"))
			what := pick(draw, "Create", "Create not mutable", "Init", "Set", "Value", "Lookup", "Assign")
			only := n
			if what == "Assign" {
				only = env.Find(m, n, name)
			}
			was := envs(m)
			dones(m, n, name)[what]()
			for k, e := range envs(m) {
				if sameEnv(e, was[k]) {
					continue
				}
				turned++
				if k != only || what == "Value" || what == "Lookup" || e.Outer != was[k].Outer || e.Object != was[k].Object {
					t.Fatalf("%s in %d turned %d: %+v, not %+v", what, n, k, e, was[k])
				}
			}
		}
	}
	if turned < 1000 {
		t.Errorf("%d times", turned)
	}
}

// A counter that two functions have of one environment, and others of theirs: as closures
// have it.
func TestEn4Closures(t *testing.T) {
	m := roomy(t)
	outer := scope(t, m, -1, bound("n", number(100), "mr"))
	var made []int
	for range 3 {
		n, _ := env.New(m, outer, -1)
		env.Create(m, n, wide("n"), true)
		env.Set(m, n, wide("n"), number(0))
		made = append(made, n)
	}
	count := func(n int) {
		inner, _ := env.New(m, n, -1)
		env.Create(m, inner, wide("x"), true)
		env.Assign(m, inner, wide("n"), number(env.Lookup(m, inner, wide("n")).Value.N+1))
	}
	for i, n := range []int{0, 1, 1, 2, 1, 0} {
		count(made[n])
		if i == 2 {
			count(outer)
		}
	}
	for i, want := range []float64{2, 3, 1} {
		ends(t, "Lookup of "+strconv.Itoa(i), env.Lookup(m, made[i], wide("n")), normal(number(want)))
	}
	ends(t, "Lookup", env.Lookup(m, outer, wide("n")), normal(number(101)))
}

// With more of each limit the same is told, up to where a limit was met.
func TestMore(t *testing.T) {
	draw := draws(156)
	whole, cut := 0, 0
	for i := range uint64(800) {
		l := api.Limits{Fuel: pick(draw, 0, 5, 30, 1000), Cells: pick(draw, 20, 60, 200, 1000), Depth: pick(draw, 0, 1, 3, 10)}
		more := api.Limits{Fuel: l.Fuel + pick(draw, 0, 1, 1000), Cells: l.Cells + pick(draw, 0, 1, 1000), Chars: 5, Depth: l.Depth + pick(draw, 0, 1, 10)}
		a, b := played(t, l, i), played(t, more, i)
		want := a.log
		if a.r.machine().Over() {
			cut++
			want = want[:a.until]
		} else if whole++; b.r.machine().Over() || a.r.machine().Heap().Used() != b.r.machine().Heap().Used() {
			t.Fatalf("%d: with more limits it is over, or used something else", i)
		}
		if len(b.log) < len(want) || !slices.Equal(b.log[:len(want)], want) {
			t.Fatalf("%d: with more limits something else is told", i)
		}
	}
	if whole < 150 || cut < 150 {
		t.Errorf("%d without a limit, %d with one", whole, cut)
	}
}
