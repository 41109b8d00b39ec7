package heap_test

import (
	"slices"
	"strconv"
	"testing"

	"quill/api"
	"quill/heap"
	"quill/ustr"
)

// twin is a heap, and its model, to both of which all is done.
type twin struct {
	t   *testing.T
	h   *heap.Heap
	m   *model
	met map[ended]int // what was told, how often
}

// ended is how a call ended.
type ended struct {
	call string
	ok   bool
	e    api.Errno
}

func newTwin(t *testing.T, cells int) *twin {
	return &twin{t, made(t, cells), &model{room: cells}, map[ended]int{}}
}

func (w *twin) alloc(o api.Object) {
	w.t.Helper()
	want, errno := w.m.alloc(o)
	if n, e := w.h.Alloc(o); n != want || e != errno {
		w.t.Fatalf("Alloc of class %d, %s: %d, %d, not %d, %d", o.Class, shownTable(o.Props), n, e, want, errno)
	}
	w.met[ended{"Alloc", errno == api.OK, errno}]++
}

func (w *twin) define(o int, key string, p api.Prop) {
	w.t.Helper()
	want, errno := w.m.define(o, key, p)
	if ok, e := w.h.Define(o, key, p); ok != want || e != errno {
		w.t.Fatalf("Define(%d, %q, %s): %v, %d, not %v, %d", o, key, shown(p), ok, e, want, errno)
	}
	w.met[ended{"Define", want, errno}]++
}

func (w *twin) remove(o int, key string) {
	w.t.Helper()
	want := w.m.remove(o, key)
	if ok := w.h.Delete(o, key); ok != want {
		w.t.Fatalf("Delete(%d, %q): %v", o, key, ok)
	}
	w.met[ended{"Delete", want, api.OK}]++
}

// object holds that an object is as the model has it.
func (w *twin) object(o int) {
	w.t.Helper()
	x, e := w.h.Object(o)
	if w.m.there(o) != (e == api.OK) || w.m.there(o) && !sameObject(x, w.m.objects[o]) {
		w.t.Fatalf("object %d: %s, fixed: %v, %d, not %s", o, shownTable(x.Props), x.Fixed, e, shownTable(w.m.objects[o].Props))
	}
	if !slices.Equal(w.h.Names(o), w.m.names(o)) || !slices.Equal(w.h.Keys(o), w.m.keys(o)) || w.h.Fixed(o) != w.m.fixed(o) {
		w.t.Fatalf("object %d: names %q, keys %q, fixed %v, not %q, %q", o, w.h.Names(o), w.h.Keys(o), w.h.Fixed(o), w.m.names(o), w.m.keys(o))
	}
}

// asked holds what is told of a key.
func (w *twin) asked(o int, key string) {
	w.t.Helper()
	p, ok := w.h.Own(o, key)
	if q, is := w.m.own(o, key); ok != is || !equal(p, q) {
		w.t.Fatalf("Own(%d, %q): %s, not %s", o, key, shown(p), shown(q))
	}
	p, n, ok := w.h.Property(o, key)
	if q, who, is := w.m.property(o, key); ok != is || n != who || !equal(p, q) {
		w.t.Fatalf("Property(%d, %q): %s, %d, not %s, %d", o, key, shown(p), n, shown(q), who)
	}
	if ok := w.h.CanPut(o, key); ok != w.m.canPut(o, key) {
		w.t.Fatalf("CanPut(%d, %q): %v", o, key, ok)
	}
}

// whole holds all of a heap.
func (w *twin) whole() {
	w.t.Helper()
	if w.h.Used() != w.m.used || w.h.Len() != len(w.m.objects) || !sameAll(w.h.All(), w.m.objects) {
		w.t.Fatalf("%d used, %d objects, not %d, %d", w.h.Used(), w.h.Len(), w.m.used, len(w.m.objects))
	}
	for o := -1; o <= len(w.m.objects); o++ {
		w.object(o)
	}
}

// patterns are all rows of n elements that are not there, there, or not configurable.
func patterns(n int) [][]api.Keyed {
	if n == 0 {
		return [][]api.Keyed{nil}
	}
	var all [][]api.Keyed
	key := strconv.Itoa(n - 1)
	for _, l := range patterns(n - 1) {
		l = slices.Clip(l)
		all = append(all, l, append(l, keyed(key, plain(null(), "wec"))), append(l, keyed(key, pair(undefined(), object(0), "e"))))
	}
	return all
}

// small are all arrays of lengths up to 3, writable or not, extensible or not.
func small() []api.Object {
	var all []api.Object
	for n := range 4 {
		for _, l := range patterns(n) {
			for _, marks := range []string{"", "w"} {
				for _, fixed := range []bool{false, true} {
					o := array(float64(n), marks, l...)
					o.Fixed = fixed
					all = append(all, o)
				}
			}
		}
	}
	return all
}

// ways are a descriptor, with marks in all ways beside it.
func ways(p api.Prop) []api.Prop {
	var all []api.Prop
	for i := range 27 {
		q := p
		for j, bit := range []int{api.HasWritable, api.HasEnumerable, api.HasConfigurable} {
			if said := i / []int{1, 3, 9}[j] % 3; said > 0 {
				q.Has |= bit
				*[]*bool{&q.Writable, &q.Enumerable, &q.Configurable}[j] = said == 2
			}
		}
		all = append(all, q)
	}
	return all
}

// Each small array, with each length and each index, in all ways; with and without cells.
func TestSmallArrays(t *testing.T) {
	lengths := ways(api.Prop{})
	for _, v := range []api.Value{number(0), number(1), number(2), number(3), number(4), narrow("1"), number(1.5), undefined()} {
		lengths = append(lengths, ways(only(v))...)
	}
	lengths = append(lengths, api.Prop{Has: api.HasGet}, api.Prop{Has: api.HasGet | api.HasValue})
	indexes := []api.Prop{{}, only(number(1)), {Has: api.HasConfigurable}, {Has: api.HasGet, Get: object(1)}, plain(null(), "wec"), {Has: api.HasEnumerable, Enumerable: true}, {Has: 64}}
	for _, o := range small() {
		once := func(key string, p api.Prop, more int) {
			w := newTwin(t, 1+len(o.Props)+more)
			w.alloc(o)
			w.define(0, wide(key), p)
			if w.h.Used() != w.m.used {
				t.Fatalf("%d used", w.h.Used())
			}
			w.object(0)
		}
		for i, p := range lengths {
			once("length", p, i%2)
		}
		for more := range 2 {
			for _, p := range indexes {
				for _, key := range []string{"0", "1", "2", "3", "4", "4294967294", "a"} {
					once(key, p, more)
				}
			}
		}
	}
}

// pool are keys of which drawn ones come.
func pool() []string {
	l := wides("a", "b", "", "length", "0", "1", "2", "3", "4", "5", "10", "11", "4294967294", "4294967295", "01", "-0", "constructor")
	for i := range 12 {
		l = append(l, wide("k"+strconv.Itoa(i)))
	}
	return append(l, "a", "\x000\x00", ustr.Make([]uint16{0xD83D}))
}

func drawnValue(draw func() uint64) api.Value {
	switch draw() % 16 {
	case 0:
		return pick(draw, badValues()...)
	case 1, 2, 3:
		return pick(draw, goodValues()...)
	case 4, 5:
		return narrow(pick(draw, "0", "1", "2", "5", " 3 ", "4294967295", "x"))
	}
	return number(pick(draw, 0.0, 1, 2, 3, 4, 5, 6, 12, 1<<32-1, 1<<32-2, 1<<31, 1.5, -1))
}

// drawnProp is mostly one that may be.
func drawnProp(draw func() uint64) api.Prop {
	p := api.Prop{Has: int(draw() % 64)}
	if draw()%3 > 0 {
		p.Has &^= pick(draw, api.HasData, api.HasAccessor, api.HasAccessor, api.HasAccessor)
	}
	bit := func(part int) bool { return p.Has&part != 0 && draw()%3 > 0 }
	if p.Has&api.HasValue != 0 {
		p.Value = drawnValue(draw)
	}
	if bit(api.HasGet) {
		p.Get = object(int(draw() % 3))
	}
	if bit(api.HasSet) {
		p.Set = object(int(draw() % 3))
	}
	p.Writable, p.Enumerable, p.Configurable = bit(api.HasWritable), bit(api.HasEnumerable), bit(api.HasConfigurable)
	return p
}

// drawnObject is mostly one that may be.
func drawnObject(draw func() uint64, ahead int) api.Object {
	o := classed(pick(draw, append(classes(), api.ClassArray, api.ClassArray, api.ClassArray, api.ClassArray, api.ClassArray, api.ClassArray, api.ClassString, api.ClassString, 0)...))
	o.Proto = int(draw()%uint64(ahead+2)) - 1
	o.Fixed = draw()%6 == 0
	if draw()%4 == 0 {
		o.Native, o.Code, o.Scope = int(draw()%3), int(draw()%3), int(draw()%9)-1
		o.Bound = []api.Value{drawnValue(draw), drawnValue(draw)}
	}
	if o.Class == api.ClassArray {
		o.Props[0].P = plain(number(pick(draw, 0.0, 3, 3, 6, 1<<32-1)), pick(draw, "", "w", "w", "w"))
	}
	if draw()%20 == 0 {
		o.Prim = drawnValue(draw)
	}
	for range draw() % 4 {
		p := drawnProp(draw)
		for range 9 {
			if p.Has == fullData || p.Has == fullAccessor {
				break
			}
			p = drawnProp(draw)
		}
		o.Props = append(o.Props, api.Keyed{Key: pick(draw, pool()...), P: p})
	}
	return o
}

// step does something drawn.
func (w *twin) step(draw func() uint64) {
	o := int(draw()%uint64(len(w.m.objects)+1)) - int(draw()%40/39)
	key := pick(draw, pool()...)
	switch n := draw() % 40; {
	case n == 0:
		w.h.Prevent(o)
		w.m.prevent(o)
	case n == 1:
		k := int(draw()%4) - 1
		want := w.m.take(k)
		if ok := w.h.Take(k); ok != want {
			w.t.Fatalf("Take(%d): %v", k, ok)
		}
	case n < 4:
		w.alloc(drawnObject(draw, len(w.m.objects)))
	case n < 14:
		w.remove(o, key)
	case n < 18:
		w.define(o, wide("length"), only(drawnValue(draw)))
	case n < 24:
		w.define(o, key, plain(drawnValue(draw), pick(draw, "wec", "ec", "wc")))
	default:
		w.define(o, key, drawnProp(draw))
	}
	w.object(o)
	w.asked(o, key)
	w.asked(len(w.m.objects)-1, key)
}

// Much that is drawn is done to heaps of all sizes, and to their models.
func TestDrawn(t *testing.T) {
	draw := draws(13)
	met := map[ended]int{}
	for i := range 600 {
		w := newTwin(t, pick(draw, 0, 3, 20, 60, 200, 1000))
		w.met = met
		for range 100 {
			w.step(draw)
		}
		w.whole()
		for _, key := range pool() {
			for o := -1; o <= len(w.m.objects); o++ {
				w.asked(o, key)
			}
		}
		if i%20 == 0 {
			w.loaded()
		}
	}
	for _, end := range []ended{{"Alloc", true, api.OK}, {"Alloc", false, api.ErrArg}, {"Alloc", false, api.ErrFull}, {"Define", true, api.OK}, {"Define", false, api.OK}, {"Define", false, api.ErrNone}, {"Define", false, api.ErrArg}, {"Define", false, api.ErrProp}, {"Define", false, api.ErrRange}, {"Define", false, api.ErrFull}, {"Delete", true, api.OK}, {"Delete", false, api.OK}} {
		if met[end] < 50 {
			t.Errorf("%v was met %d times", end, met[end])
		}
	}
}

// loaded holds that Load of all is the heap (He8).
func (w *twin) loaded() {
	all := w.h.All()
	cells := len(all)
	for _, o := range all {
		cells += len(o.Props)
	}
	h, e := heap.Load(all, cells)
	if e != api.OK || h.Used() != cells || cells > w.h.Used() || !sameAll(h.All(), all) {
		w.t.Fatalf("Load of All: %d", e)
	}
	if cells > 0 {
		if _, e := heap.Load(all, cells-1); e != api.ErrFull {
			w.t.Fatalf("Load of All without a cell: %d", e)
		}
	}
	for o := range h.Len() {
		if !slices.Equal(h.Names(o), w.h.Names(o)) || !slices.Equal(h.Keys(o), w.h.Keys(o)) {
			w.t.Fatalf("Load of All: object %d", o)
		}
	}
}

// Few objects of many properties, that come and go.
func TestDrawnMany(t *testing.T) {
	draw := draws(31)
	for range 15 {
		w := newTwin(t, 1<<20)
		w.alloc(bare(-1))
		w.alloc(array(0, "w"))
		w.alloc(box("abcdefghijkl"))
		for range 800 {
			o, key := int(draw()%3), digits(uint32(draw()%40))
			switch draw() % 8 {
			case 0:
				w.define(1, wide("length"), only(number(float64(draw()%45))))
			case 1, 2, 3:
				w.remove(o, key)
			default:
				w.define(o, key, plain(number(float64(draw()%9)), pick(draw, "wec", "wec", "wec", "wec", "wec", "ec", "c")))
			}
			w.object(o)
			w.asked(o, key)
		}
		w.whole()
	}
}

// All lengths at the edges against all others.
func TestGreatLengths(t *testing.T) {
	l := []float64{0, 1, 2, 1<<31 - 1, 1 << 31, 1<<31 + 1, 1<<32 - 3, 1<<32 - 2, 1<<32 - 1}
	p := plain(null(), "wec")
	for _, from := range l {
		for _, to := range l {
			for _, stays := range []string{"", "0", "2147483647", "2147483648", "4294967293", "4294967294"} {
				w := newTwin(t, 99)
				w.alloc(array(from, "w"))
				for _, key := range []string{"4294967294", "1", "2147483648", "0", "4294967293", "2147483647"} {
					if i, _ := at(wide(key)); float64(i) < from {
						w.define(0, wide(key), p)
					}
				}
				if i, ok := at(wide(stays)); ok && float64(i) < from {
					w.define(0, wide(stays), api.Prop{Has: api.HasConfigurable})
				}
				w.define(0, wide("length"), only(number(to)))
				w.object(0)
			}
		}
	}
}
