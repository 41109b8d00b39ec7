package machine_test

import (
	"math"
	"slices"
	"strconv"
	"strings"
	"testing"

	"quill/api"
	"quill/machine"
)

// player does drawn things to a machine or to its model, in natives of it, too; with the
// same draws it does the same to both, as long as they tell the same.
type player struct {
	r     runner
	draw  func() uint64
	turns int            // that are left
	log   []string       // what was done, and told
	until int            // how much of that was told ahead of a limit; -1: all
	met   map[string]int // how things ended, how often
}

func (p *player) note(what string, d api.Done) {
	ended := "other"
	if d.Kind >= 0 && d.Kind <= api.DoneLimit {
		ended = []string{"normal", "throw", "return", "break", "continue", "limit"}[d.Kind]
	}
	p.met[what+" "+ended]++
	if p.until < 0 && p.r.Over() {
		p.until = len(p.log)
	}
	p.log = append(p.log, what+": "+shown(d))
}

func (p *player) number(what string, n int, d api.Done) {
	p.note(what, d)
	p.log = append(p.log, strconv.Itoa(n))
}

// enter is what all natives do, and bodies.
func (p *player) enter(r runner, what string, e api.Entry) api.Done {
	s := what + " of " + strconv.Itoa(e.Func) + ", this " + named(e.This) + ", new: " + strconv.FormatBool(e.New)
	for _, v := range e.Args {
		s += ", " + named(v)
	}
	p.log = append(p.log, s)
	p.met[what]++
	if r != p.r {
		p.log = append(p.log, "another machine")
	}
	for range p.draw() % 4 {
		p.turn()
	}
	spoil(e.Args, null())
	d := api.Done{Kind: pick(p.draw, 0, 0, 0, 0, 0, 0, 0, 1, 1, 2, 2, 3, 4), Value: p.value()}
	if p.draw()%200 == 0 {
		d.Kind = api.DoneLimit
	}
	if d.Kind == api.DoneBreak {
		d.Label = wide("label")
	}
	return d
}

// spoil overwrites a list and the room behind it.
func spoil[T any](l []T, with T) {
	l = l[:cap(l)]
	for i := range l {
		l[i] = with
	}
}

// object is the number of one, mostly.
func (p *player) object() int {
	n := p.r.Heap().Len()
	if p.draw()%20 == 0 {
		return pick(p.draw, -1, n, math.MaxInt)
	}
	return int(p.draw() % uint64(n+1))
}

// function is a function, mostly.
func (p *player) function() api.Value {
	h := p.r.Heap()
	for range 8 {
		o := int(p.draw() % uint64(h.Len()+1))
		if x, _ := h.Object(o); x.Class == api.ClassFunction {
			return object(o)
		}
	}
	return object(max(p.object(), 0))
}

func (p *player) value() api.Value {
	switch p.draw() % 8 {
	case 0, 1:
		return p.function()
	case 2:
		return undefined()
	case 3:
		return number(pick(p.draw, 0, 1, 2, 3, -1, 1.5, none()))
	case 4:
		return pick(p.draw, null(), truth(true), narrow("a"), narrow("2"))
	}
	return object(max(p.object(), 0))
}

func (p *player) values() []api.Value {
	var l []api.Value
	for range p.draw() % 3 {
		l = append(l, p.value())
	}
	return l
}

func (p *player) key() string {
	if p.draw()%40 == 0 {
		return "odd"
	}
	return wide(pick(p.draw, "a", "b", "prototype", "prototype", "length", "0", "1", "5"))
}

// prop is a descriptor that may be, mostly: full, if it must.
func (p *player) prop(full bool) api.Prop {
	marks := pick(p.draw, "", "w", "c", "wc", "wec", "wec", "ec")
	q := plain(p.value(), marks)
	if p.draw()%2 == 0 {
		q = pair(undefined(), undefined(), marks)
		q.Writable = false
		for _, v := range []*api.Value{&q.Get, &q.Set} {
			if p.draw()%4 > 0 {
				*v = p.function()
			}
		}
	}
	if full {
		return q
	}
	switch p.draw() % 6 {
	case 0:
		return api.Prop{Has: api.HasConfigurable}
	case 1:
		return api.Prop{Has: int(p.draw() % 80)}
	case 2:
		return only(p.value())
	}
	return q
}

func (p *player) anObject() api.Object {
	o := bare(int(p.draw()%uint64(p.r.Heap().Len()+1)) - 1)
	switch p.draw() % 20 {
	case 0, 1:
		o = array(3)
	case 2:
		o = api.Object{Class: api.ClassString, Proto: -1, Prim: narrow("xy")}
	case 3, 4:
	default:
		o.Class = api.ClassFunction
	}
	if p.draw()%100 == 0 {
		o.Proto = pick(p.draw, -2, p.r.Heap().Len())
	}
	o.Fixed = p.draw()%8 == 0
	switch p.draw() % 4 {
	case 0:
		o.Native = int(p.draw() % 6)
	case 1:
		o.Code = int(p.draw() % 3)
	case 2:
		o.Bound = append(p.values(), p.values()...)
		o.Native = int(p.draw() % 5)
	case 3:
		o.Bound = append([]api.Value{p.function(), p.value()}, p.values()...)
	}
	for _, key := range []string{"prototype", "a", "0"} {
		if o.Class < api.ClassArray && p.draw()%3 == 0 {
			o.Props = append(o.Props, keyed(key, p.prop(true)))
		}
	}
	return o
}

func (p *player) env() api.Env {
	return api.Env{Outer: p.object(), Object: p.object(), Names: names(int(p.draw() % 4))}
}

// turn does something drawn.
func (p *player) turn() {
	if p.turns--; p.turns < 0 {
		return
	}
	r, o, key, v, throw := p.r, p.object(), p.key(), p.value(), p.draw()%2 == 0
	switch p.draw() % 32 {
	case 0, 1, 2, 3, 4:
		n, d := r.Alloc(p.anObject())
		p.number("Alloc", n, d)
	case 5, 6, 7:
		p.note("Get", r.Get(o, key, v))
	case 8, 9, 10, 11:
		p.note("Put", r.Put(o, key, v, throw))
	case 12, 13, 14:
		p.note("Define", r.Define(o, key, p.prop(false), throw))
	case 15, 31:
		p.note("Delete", r.Delete(o, key, throw))
	case 16, 17, 18, 19:
		p.note("Call", r.Call(p.function(), v, p.values()))
	case 20, 21, 22, 23:
		p.note("Construct", r.Construct(p.function(), p.values()))
	case 24:
		p.note("Call of any", r.Call(v, v, p.values()))
		p.note("Construct of any", r.Construct(v, p.values()))
	case 25:
		p.note("Fail", r.Fail(pick(p.draw, -1, api.IntTypeErrorProto, api.IntRangeErrorProto, api.IntGlobal, api.Ints)))
	case 26, 27:
		p.small()
	default:
		p.store()
	}
}

// small does what counts and limits.
func (p *player) small() {
	r := p.r
	switch p.draw() % 12 {
	case 0, 1, 2:
		p.note("Enter", normal(truth(r.Enter())))
	case 3, 4, 5:
		r.Leave()
	case 6, 7:
		p.note("Spend", normal(truth(r.Spend(int(p.draw()%4)-1))))
	case 8:
		x, ok := r.Draw()
		p.note("Draw", normal(number(x)))
		p.note("Draw", normal(truth(ok)))
	case 9:
		r.Know(pick(p.draw, api.IntTypeErrorProto, api.IntRangeErrorProto, api.IntObjectProto, api.IntGlobal, -1, api.Ints), p.object())
	case 10:
		r.Heap().Take(int(p.draw() % 2))
	default:
		if p.draw()%20 == 0 {
			p.note("Stop", r.Stop())
		}
	}
}

// store does what is with codes and environments.
func (p *player) store() {
	r := p.r
	switch p.draw() % 4 {
	case 0:
		n, d := r.AddEnv(p.env())
		p.number("AddEnv", n, d)
	case 1:
		p.note("SetEnv", r.SetEnv(int(p.draw()%uint64(r.Envs()+2))-1, p.env()))
	case 2:
		p.number("AddCode", r.AddCode(code(strconv.Itoa(int(p.draw()%9)))), api.Done{})
	case 3:
		n, ok := r.Code(int(p.draw() % 5))
		p.note("Code", normal(api.Value{Kind: api.KindString, S: n.Str, B: ok}))
	}
}

func newPlayer(r runner, seed uint64) *player {
	return &player{r: r, draw: draws(seed), turns: 2000, until: -1, met: map[string]int{}}
}

// someDraws are what both sides have.
func someDraws() []float64 { return []float64{0.5, 0.25, 0, 0.125} }

// machineSide is a machine, with natives and bodies that do drawn things.
func machineSide(t *testing.T, l api.Limits, seed uint64) *player {
	t.Helper()
	m := made(t, l, someDraws()...)
	p := newPlayer(m, seed)
	for range 4 {
		m.Register(func(m *machine.Machine, e api.Entry) api.Done { return p.enter(m, "native", e) })
	}
	m.SetBody(func(m *machine.Machine, f int, this api.Value, args []api.Value) api.Done {
		return p.enter(m, "body", api.Entry{Func: f, This: this, Args: args})
	})
	return p
}

// modelSide is the same of a model.
func modelSide(l api.Limits, seed uint64) *player {
	m := newModel(l, someDraws())
	p := newPlayer(m, seed)
	for i := range 4 {
		m.natives[i+1] = func(r runner, e api.Entry) api.Done { return p.enter(r, "native", e) }
	}
	m.body = func(r runner, e api.Entry) api.Done {
		e.New = false
		return p.enter(r, "body", e)
	}
	return p
}

// agree holds that both sides tell the same of all that there is.
func agree(t *testing.T, a, b *player) {
	t.Helper()
	for i := range min(len(a.log), len(b.log)) {
		if a.log[i] != b.log[i] {
			t.Fatalf("behind %q: %s, not %s", a.log[max(i-5, 0):i], a.log[i], b.log[i])
		}
	}
	m, w := a.r, b.r
	if len(a.log) != len(b.log) || m.Over() != w.Over() || m.Left() != w.Left() || m.Drawn() != w.Drawn() || m.Envs() != w.Envs() {
		t.Fatalf("%d things, not %d; over: %v, %d left, %d drawn, %d environments, not %v, %d, %d, %d", len(a.log), len(b.log), m.Over(), m.Left(), m.Drawn(), m.Envs(), w.Over(), w.Left(), w.Drawn(), w.Envs())
	}
	if m.Heap().Used() != w.Heap().Used() || !slices.EqualFunc(m.Heap().All(), w.Heap().All(), sameObject) {
		t.Fatalf("behind %q: %d used, of %d objects, not %d, %d", a.log[max(len(a.log)-5, 0):], m.Heap().Used(), m.Heap().Len(), w.Heap().Used(), w.Heap().Len())
	}
	for n := -1; n <= m.Envs(); n++ {
		x, ok := m.Env(n)
		y, is := w.Env(n)
		if ok != is || !sameEnv(x, y) {
			t.Fatalf("environment %d: %+v, %v, not %+v, %v", n, x, ok, y, is)
		}
	}
	for k := -1; k <= api.Ints; k++ {
		if m.Known(k) != w.Known(k) {
			t.Fatalf("known %d: %d, not %d", k, m.Known(k), w.Known(k))
		}
	}
	a.log, b.log = a.log[:0], b.log[:0]
}

// Much that is drawn is done to machines of all limits, and to their models.
func TestDrawn(t *testing.T) {
	draw := draws(14)
	ended := map[string]int{}
	for i := range 6000 {
		l := api.Limits{Fuel: pick(draw, 10, 100, 1000, 1000), Cells: pick(draw, 20, 200, 1000, 1000), Depth: pick(draw, 1, 3, 6, 20)}
		a, b := machineSide(t, l, uint64(i)), modelSide(l, uint64(i))
		a.met = ended
		for n, behind := 0, 0; n < 60 && behind < 3; n++ {
			a.turn()
			b.turn()
			agree(t, a, b)
			if a.r.Over() {
				behind++
			}
		}
	}
	for _, what := range []string{"Alloc", "Get", "Put", "Define", "Call", "Construct", "Call of any", "Construct of any"} {
		for _, how := range []string{"normal", "throw", "limit"} {
			if n := ended[what+" "+how]; n < 100 && (what != "Alloc" || how != "throw") {
				t.Errorf("%s: %s %d times", what, how, n)
			}
		}
	}
	for _, what := range []string{"native", "body", "Delete normal", "Delete throw", "Fail throw", "Fail limit", "AddEnv normal", "AddEnv limit", "SetEnv normal", "SetEnv limit"} {
		if ended[what] < 100 {
			t.Errorf("%s: %d times", what, ended[what])
		}
	}
	for what, n := range ended {
		for _, how := range []string{" return", " break", " continue", " other"} {
			if strings.HasSuffix(what, how) {
				t.Errorf("%s: %d times", what, n)
			}
		}
	}
}
