package env_test

import (
	"math"
	"slices"
	"strconv"
	"testing"

	"quill/api"
	"quill/machine"
)

// player does drawn things to layer 15 or to its model, in natives, too; with the same draws
// it does the same to both, as long as they tell the same.
type player struct {
	r     runner
	draw  func() uint64
	turns int            // that are left
	log   []string       // what was done, and told
	until int            // how much of that was told ahead of a limit; -1: all
	met   map[string]int // how things ended, how often
}

func (p *player) note(what string, d api.Done) {
	ended := "other"
	if d.Kind >= 0 && d.Kind <= api.DoneLimit {
		ended = []string{"normal", "throw", "return", "break", "continue", "limit"}[d.Kind]
	}
	p.met[what+" "+ended]++
	if p.until < 0 && p.r.machine().Over() {
		p.until = len(p.log)
	}
	p.log = append(p.log, what+": "+shown(d))
}

// enter is what all natives do.
func (p *player) enter(e api.Entry) api.Done {
	s := "native " + strconv.Itoa(e.Func) + ", this " + named(e.This)
	for _, v := range e.Args {
		s += ", " + named(v)
	}
	p.log = append(p.log, s)
	p.met["native"]++
	for range p.draw() % 3 {
		p.turn()
	}
	return api.Done{Kind: pick(p.draw, 0, 0, 0, 1, 2), Value: p.value()}
}

// among is one of so many numbers, or of those beside them.
func (p *player) among(n int) int {
	if p.draw()%12 == 0 {
		return pick(p.draw, math.MinInt, -5, -1, n, n+1, math.MaxInt)
	}
	return int(p.draw() % uint64(n+1))
}

func (p *player) env() int {
	n := 0
	for ok := true; ok; n++ {
		_, ok = p.r.told(n)
	}
	return p.among(n - 1)
}

func (p *player) object() int { return p.among(p.r.machine().Heap().Len()) }

func (p *player) value() api.Value {
	return pick(p.draw, undefined(), null(), number(1), number(2), number(none()), narrow("x"), object(p.object()))
}

func (p *player) key() string {
	return pick(p.draw, "a", "a", "a", "b", "b", "b", "c", "c", "d", "length", "0", "")
}

// bindings are some, of names that may stand twice.
func (p *player) bindings() []api.Binding {
	var l []api.Binding
	for range p.draw() % 4 {
		l = append(l, bound(p.key(), p.value(), pick(p.draw, "", "m", "r", "mr", "mr")))
	}
	return l
}

// accessor is a getter or a setter: one of the first objects, which are functions.
func (p *player) accessor() api.Value {
	return pick(p.draw, undefined(), object(0), object(0), object(1), object(1))
}

func (p *player) prop() api.Prop {
	if p.draw()%2 == 0 {
		return pair(p.accessor(), p.accessor())
	}
	return plain(undefined(), pick(p.draw, "", "w", "we", "wec", "c"))
}

func (p *player) anObject() api.Object {
	proto := int(p.draw()%uint64(p.r.machine().Heap().Len()+1)) - 1
	switch p.draw() % 8 {
	case 0:
		return array(1, pick(p.draw, "", "w"))
	case 1:
		return api.Object{Class: api.ClassString, Proto: proto, Prim: narrow("z")}
	}
	o := bare(proto)
	for _, key := range []string{"a", "b", "c"} {
		if p.draw()%3 == 0 {
			o.Props = append(o.Props, keyed(key, p.prop()))
		}
	}
	o.Fixed = p.draw()%3 == 0
	return o
}

// turn does something drawn.
func (p *player) turn() {
	if p.turns--; p.turns < 0 {
		return
	}
	r, m := p.r, p.r.machine()
	n, name, v := p.env(), wide(p.key()), p.value()
	switch p.draw() % 23 {
	case 0, 1:
		k, d := r.New(p.env(), pick(p.draw, -1, -3, p.object(), p.object()))
		p.note("New", d)
		p.log = append(p.log, strconv.Itoa(k))
	case 2:
		e := api.Env{Outer: p.env(), Object: pick(p.draw, -1, -1, -2, p.object()), Names: p.bindings()}
		p.note("AddEnv", r.add(e))
	case 3, 21, 22:
		_, d := m.Alloc(p.anObject())
		p.note("Alloc", d)
	case 4:
		p.note("Define", m.Define(p.object(), name, p.prop(), false))
	case 5:
		p.note("Delete", m.Delete(p.object(), name, false))
	case 6, 7, 8:
		p.note("Create", r.Create(n, name, p.draw()%3 > 0))
	case 9, 10:
		p.note("Init", r.Init(n, name, v))
	case 11, 12, 13:
		p.note("Set", r.Set(n, name, v))
	case 14, 15:
		p.note("Value", r.Value(n, name))
	case 16, 17:
		p.note("Lookup", r.Lookup(n, name))
	case 18, 19:
		p.note("Assign", r.Assign(n, name, v))
	case 20:
		p.log = append(p.log, strconv.Itoa(r.Find(n, name)), strconv.FormatBool(r.Has(n, name)))
	}
}

// newPlayer plays with a runner whose first two objects are functions of a native that does
// drawn things.
func newPlayer(t *testing.T, r runner, seed uint64) *player {
	t.Helper()
	p := &player{r: r, draw: draws(seed), turns: 300, until: -1, met: map[string]int{}}
	m := r.machine()
	for range 2 {
		n := m.Register(func(_ *machine.Machine, e api.Entry) api.Done { return p.enter(e) })
		alloc(t, m, api.Object{Class: api.ClassFunction, Proto: -1, Native: n})
	}
	m.Know(api.IntTypeErrorProto, 0)
	m.Know(api.IntReferenceErrorProto, 1)
	return p
}

// ready is one with an object that has a getter and a setter, and its environment.
func ready(t *testing.T, r runner, seed uint64) *player {
	t.Helper()
	p := newPlayer(t, r, seed)
	o := alloc(t, r.machine(), bare(-1, keyed("a", pair(object(0), object(1)))))
	ends(t, "AddEnv", r.add(api.Env{Outer: -1, Object: o}), normal(undefined()))
	return p
}

// played is layer 15 over a machine of limits, to which drawn things were done.
func played(t *testing.T, l api.Limits, seed uint64) *player {
	t.Helper()
	p := ready(t, layer{made(t, l)}, seed)
	for range 60 {
		p.turn()
	}
	return p
}

// agree holds that both sides told the same, and have the same.
func agree(t *testing.T, a, b *player) {
	t.Helper()
	for i := range min(len(a.log), len(b.log)) {
		if a.log[i] != b.log[i] {
			t.Fatalf("behind %q: %s, not %s", a.log[max(i-5, 0):i], a.log[i], b.log[i])
		}
	}
	last := a.log[max(len(a.log)-5, 0):]
	m, w := a.r.machine(), b.r.machine()
	if len(a.log) != len(b.log) || m.Over() != w.Over() || m.Left() != w.Left() || m.Heap().Used() != w.Heap().Used() {
		t.Fatalf("behind %q: %d told, over: %v, %d left, %d used, not %d, %v, %d, %d", last, len(a.log), m.Over(), m.Left(), m.Heap().Used(), len(b.log), w.Over(), w.Left(), w.Heap().Used())
	}
	if !slices.EqualFunc(m.Heap().All(), w.Heap().All(), sameObject) {
		t.Fatalf("behind %q: objects %+v, not %+v", last, m.Heap().All(), w.Heap().All())
	}
	for n := -1; n <= m.Envs(); n++ {
		x, ok := a.r.told(n)
		y, is := b.r.told(n)
		if ok != is || !sameEnv(x, y) {
			t.Fatalf("behind %q: environment %d: %+v, %v, not %+v, %v", last, n, x, ok, y, is)
		}
	}
	a.log, b.log = a.log[:0], b.log[:0]
}

// Much that is drawn is done over machines of all limits, and to their models.
func TestDrawn(t *testing.T) {
	draw := draws(15)
	ended := map[string]int{}
	for i := range 4000 {
		l := api.Limits{Fuel: pick(draw, 3, 20, 1000, 1000), Cells: pick(draw, 10, 40, 1000, 1000), Depth: pick(draw, 1, 3, 20)}
		a, b := ready(t, layer{made(t, l)}, uint64(i)), ready(t, &model{m: made(t, l)}, uint64(i))
		a.met = ended
		for n, behind := 0, 0; n < 60 && behind < 5; n++ {
			a.turn()
			b.turn()
			agree(t, a, b)
			if a.r.machine().Over() {
				behind++
			}
		}
	}
	for _, what := range []string{"New", "Create", "Init", "Set", "Value", "Lookup", "Assign"} {
		for _, how := range []string{"normal", "throw", "limit"} {
			never := how == "throw" && (what == "New" || what == "Init")
			if n := ended[what+" "+how]; n < 100 && !never || n > 0 && never {
				t.Errorf("%s: %s %d times", what, how, n)
			}
		}
	}
	if ended["native"] < 1000 {
		t.Errorf("natives: %d times", ended["native"])
	}
}

// smallEnvs are environments of all sorts as far as the name `a` goes, those of smallObjects
// (2 is the first one's number) among them.
func smallEnvs() []api.Env {
	var l []api.Env
	for _, object := range []int{-1, -2} {
		l = append(l, api.Env{Outer: 0, Object: object}, api.Env{Outer: 0, Object: object, Names: []api.Binding{bound("b", null(), "mr")}})
		for _, marks := range []string{"", "m", "r", "mr"} {
			first := bound("a", number(1), marks)
			l = append(l, api.Env{Outer: 0, Object: object, Names: []api.Binding{first}})
			for _, more := range []string{"", "m", "r", "mr"} {
				l = append(l, api.Env{Outer: 0, Object: object, Names: []api.Binding{bound("b", null(), "r"), first, bound("a", number(2), more)}})
			}
		}
	}
	for i := range len(smallObjects()) + 1 { // the last one is not there
		l = append(l, api.Env{Outer: 0, Object: 2 + i}, api.Env{Outer: 0, Object: 2 + i, Names: []api.Binding{bound("a", number(3), "")}})
	}
	return l
}

// smallProps are properties of all sorts.
func smallProps() []api.Prop {
	var l []api.Prop
	for _, marks := range []string{"", "w", "e", "c", "we", "wc", "ec", "wec"} {
		l = append(l, plain(number(4), marks))
	}
	for _, get := range []api.Value{undefined(), object(0)} {
		for _, set := range []api.Value{undefined(), object(1)} {
			l = append(l, pair(get, set))
		}
	}
	return l
}

// smallObjects are objects that have `a` in all ways; each second one is the prototype of
// those behind it.
func smallObjects() []api.Object {
	l := []api.Object{bare(-1), fixed(bare(-1))}
	for _, p := range smallProps() {
		proto := 2 + len(l)
		l = append(l, bare(-1, keyed("a", p)), bare(proto), fixed(bare(proto)), fixed(bare(-1, keyed("a", p))), bare(proto, keyed("a", plain(number(5), "w"))))
	}
	return l
}

// small is a runner of one of the smallEnvs, around which others are, with so many cells left.
func small(t *testing.T, r runner, e api.Env, cells int) *player {
	t.Helper()
	p := newPlayer(t, r, 1)
	p.turns = 0
	for _, o := range smallObjects() {
		alloc(t, r.machine(), o)
	}
	for _, x := range []api.Env{{Outer: -1, Object: -1, Names: []api.Binding{bound("a", number(6), "mr")}}, e, {Outer: 1, Object: -1}} {
		ends(t, "AddEnv", r.add(x), normal(undefined()))
	}
	m := r.machine()
	if !m.Heap().Take(m.Limits().Cells - m.Heap().Used() - cells) {
		t.Fatal("there are not so many cells")
	}
	return p
}

// Each call on each small environment, with few cells and with many, on a machine that is
// over and on one that is not, and of those behind it.
func TestSmall(t *testing.T) {
	l := api.Limits{Fuel: 3, Cells: 1000, Depth: 2}
	for _, e := range smallEnvs() {
		for _, cells := range []int{0, 1, 2, 9} {
			for call := range 18 {
				a, b := small(t, layer{made(t, l)}, e, cells), small(t, &model{m: made(t, l)}, e, cells)
				if call >= 9 {
					a.r.machine().Stop()
					b.r.machine().Stop()
				}
				for n := 1; n < 4; n++ {
					for _, p := range []*player{a, b} {
						p.one(call%9, n, wide("a"))
						p.one(5, n, wide("a"))
					}
					agree(t, a, b)
				}
			}
		}
	}
}

// one does one call.
func (p *player) one(call, n int, name string) {
	r := p.r
	switch call {
	case 0:
		_, d := r.New(n, n)
		p.note("New", d)
	case 1:
		p.note("Create", r.Create(n, name, true))
	case 2:
		p.note("Create", r.Create(n, name, false))
	case 3:
		p.note("Init", r.Init(n, name, number(8)))
	case 4:
		p.note("Set", r.Set(n, name, number(8)))
	case 5:
		p.note("Value", r.Value(n, name))
	case 6:
		p.note("Lookup", r.Lookup(n, name))
	case 7:
		p.note("Assign", r.Assign(n, name, number(8)))
	case 8:
		p.log = append(p.log, strconv.Itoa(r.Find(n, name)), strconv.FormatBool(r.Has(n, name)))
	}
}
