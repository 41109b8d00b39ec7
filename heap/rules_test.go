package heap_test

import (
	"math"
	"slices"
	"strconv"
	"strings"
	"sync"
	"testing"

	"quill/api"
	"quill/heap"
)

// wildProps are descriptors most of which may not be.
func wildProps() []api.Prop {
	var l []api.Prop
	for _, has := range []int{math.MinInt, -1, 0, 1, 3, 7, 48, 57, 54, 63, 64, math.MaxInt} {
		for _, v := range append(badValues(), undefined(), object(0), number(5)) {
			l = append(l, api.Prop{Has: has, Value: v}, api.Prop{Has: has, Get: v, Set: v}, api.Prop{Has: has, Value: v, Get: v, Writable: true, Configurable: true})
		}
	}
	return l
}

func wildNumbers() []int { return []int{math.MinInt, -2, -1, 0, 1, 2, 3, 4, math.MaxInt} }

func wildKeys() []string {
	return []string{"", "a", "\x00", wide("a"), wide("length"), "length", wide("0"), wide("4294967294"), wide("4294967295"), "\xFF\xFF\xFF", strings.Repeat("\x009", 1000)}
}

func TestR1NoPanic(t *testing.T) {
	h := made(t, 40, array(2, "w", rows(2)...), box("ab"), bare(0))
	for _, o := range wildNumbers() {
		for _, key := range wildKeys() {
			h.Own(o, key)
			h.Property(o, key)
			h.CanPut(o, key)
			for _, p := range wildProps() {
				h.Define(o, key, p)
			}
			h.Delete(o, key)
		}
		h.Object(o)
		h.Names(o)
		h.Keys(o)
		h.Take(o)
		h.Prevent(o)
		h.Fixed(o)
		heap.New(o)
		heap.Load(nil, o)
	}
	for _, class := range []int{math.MinInt, -1, 0, 1, 3, 4, 5, 10, 11, math.MaxInt} {
		for _, n := range wildNumbers() {
			for _, v := range append(badValues(), goodValues()...) {
				o := api.Object{Class: class, Proto: n, Prim: v, Native: n, Bound: []api.Value{v}}
				for _, key := range wildKeys() {
					o.Props = []api.Keyed{{Key: key, P: plain(v, "w")}, {Key: wide("length"), P: plain(v, "")}}
					h.Alloc(o)
				}
				heap.Load([]api.Object{o, o}, 9)
			}
		}
	}
}

// Long arrays: each of these is done in time that a step's size allows, and no more.
func TestR1Long(t *testing.T) {
	const size = 1 << 19
	h := made(t, 1<<24, array(0, "w"))
	p := plain(null(), "wec")
	for i := range uint32(size) {
		h.Define(0, digits(i), p)
	}
	for i := size - 1; i > size/2; i-- { // from behind, as pop does
		h.Delete(0, digits(uint32(i)))
		h.Define(0, wide("length"), only(number(float64(i))))
	}
	for i := range uint32(size / 2) { // from ahead
		h.Delete(0, digits(i))
		h.Define(0, wide("x"+strconv.Itoa(int(i%9))), p)
	}
	for range 1000 { // far away
		h.Define(0, wide("4294967294"), p)
		h.Define(0, wide("length"), only(number(size)))
	}
	for range 1000 {
		h.Define(0, wide("length"), only(number(1<<32-1)))
		h.Define(0, wide("length"), only(number(1<<32-2)))
	}
	if ok, e := h.Define(0, wide("length"), only(number(0))); !ok || e != api.OK {
		t.Errorf("length 0: %v, %d", ok, e)
	}
	for range 1 << 15 {
		h.Define(0, wide("length"), only(number(1<<20)))
		h.Define(0, wide("length"), only(number(0)))
	}
	names(t, h, 0, "length", "x0", "x1", "x2", "x3", "x4", "x5", "x6", "x7", "x8")
}

// Long chains of prototypes, and long texts.
func TestR1Deep(t *testing.T) {
	const deep = 1 << 17
	h := made(t, 1<<24, bare(-1, keyed("a", plain(null(), "we"))))
	for i := range deep {
		if n, e := h.Alloc(bare(i)); n != i+1 || e != api.OK {
			t.Fatalf("Alloc: %d, %d", n, e)
		}
	}
	finds(t, h, deep, "a", plain(null(), "we"), 0)
	finds(t, h, deep, "b", api.Prop{}, 0)
	keys(t, h, deep, "a")
	if !h.CanPut(deep, wide("a")) {
		t.Error("CanPut")
	}
	n, _ := h.Alloc(box(strings.Repeat("ab", deep)))
	owns(t, h, n, strconv.Itoa(2*deep-1), plain(narrow("b"), "e"))
	if l := h.Names(n); len(l) != 2*deep+1 || l[2*deep] != wide("length") {
		t.Errorf("%d names", len(l))
	}
	if l := h.Keys(n); len(l) != 2*deep {
		t.Errorf("%d keys", len(l))
	}
}

// Beside an error, a false and a none there is nothing, and nothing has changed.
func TestR2Nothing(t *testing.T) {
	draw := draws(22)
	refused := 0
	for range 300 {
		w := newTwin(t, pick(draw, 2, 10, 40))
		for range 30 {
			before, used := w.h.All(), w.h.Used()
			o, key, p := int(draw()%5)-1, pick(draw, pool()...), drawnProp(draw)
			x := drawnObject(draw, w.h.Len())
			changed := false
			switch draw() % 3 {
			case 0:
				n, e := w.h.Alloc(x)
				if changed = e == api.OK; !changed && n != 0 {
					t.Errorf("Alloc: %d, %d", n, e)
				}
			case 1:
				ok, e := w.h.Define(o, key, p)
				changed = ok || key == wide("length") // which may have removed some
				if ok && e != api.OK {
					t.Errorf("Define: %v, %d", ok, e)
				}
			case 2:
				changed = w.h.Delete(o, key)
			}
			if !changed {
				refused++
				if !sameAll(w.h.All(), before) || w.h.Used() != used {
					t.Fatalf("what was refused changed something: %s of %d", shown(p), o)
				}
			}
		}
	}
	if refused < 1000 {
		t.Errorf("%d were refused", refused)
	}
}

// spoil overwrites a list and the room behind it.
func spoil[T any](l []T, with T) {
	l = l[:cap(l)]
	for i := range l {
		l[i] = with
	}
}

func spoilObject(o api.Object) {
	spoil(o.Props, keyed("spoilt", api.Prop{Has: -1}))
	spoil(o.Bound, api.Value{Kind: -1})
}

// roomy is a list with room behind its end, in which something stands.
func roomy[T any](l []T, more ...T) []T {
	return slices.Concat(l, more)[:len(l)]
}

// boundObject is an object with all lists.
func boundObject(n int) api.Object {
	l := rows(n)
	for i := range l {
		if i%2 == 0 {
			l[i].P = pair(object(i), undefined(), "ec")
		}
	}
	return api.Object{Class: api.ClassFunction, Proto: -1, Props: l, Bound: []api.Value{object(5), null(), narrow("x")}}
}

// What is handed in is not changed, nor the room behind it, and not kept.
func TestR3HandedIn(t *testing.T) {
	for _, n := range []int{0, 1, 3, 9, 30} {
		want := boundObject(n)
		more, values := rows(3), []api.Value{number(7), number(8)}
		o := want
		o.Props, o.Bound = roomy(want.Props, more...), roomy(want.Bound, values...)
		l := roomy([]api.Object{o}, bare(-1), bare(-1))
		h := made(t, 999)
		h.Alloc(o)
		loaded := made(t, 999, l...)
		for _, h := range []*heap.Heap{h, loaded} {
			h.Define(0, wide("more"), only(null()))
			h.Delete(0, wide("0"))
			h.Delete(0, wide("more"))
		}
		if !sameObject(o, want) || !sameTable(o.Props[n:cap(o.Props)][:3], more) || !slices.EqualFunc(o.Bound[3:cap(o.Bound)][:2], values, alike) {
			t.Errorf("%d: what was handed in changed", n)
		}
		if rest := l[1:cap(l)]; !sameObject(l[0], want) || !sameAll(rest[:2], []api.Object{bare(-1), bare(-1)}) {
			t.Errorf("%d: what was loaded changed", n)
		}
		h, loaded = made(t, 999), made(t, 999, l...)
		h.Alloc(o)
		spoilObject(o)
		spoil(l, api.Object{})
		for _, h := range []*heap.Heap{h, loaded} {
			if x, _ := h.Object(0); !sameObject(x, want) {
				t.Errorf("%d: what was handed in is kept: %s", n, shownTable(x.Props))
			}
		}
	}
}

// What is told is new.
func TestR3Told(t *testing.T) {
	for _, n := range []int{0, 1, 3, 9, 30} {
		l := []api.Object{boundObject(n), boundObject(n), box("ab", keyed("x", plain(null(), "e")))}
		h := made(t, 999, l...)
		tells := func(what string) {
			t.Helper()
			if !sameAll(h.All(), l) {
				t.Errorf("%d: %s changed the heap", n, what)
			}
		}
		for o := range l {
			first, _ := h.Object(o)
			second, _ := h.Object(o)
			spoilObject(first)
			tells("an object that was told")
			if !sameObject(second, l[o]) {
				t.Errorf("%d: two answers share room", n)
			}
			spoil(h.Names(o), "spoilt")
			spoil(h.Keys(o), "spoilt")
			tells("names that were told")
		}
		all, other := h.All(), h.All()
		spoilObject(all[0])
		if !sameAll(all[1:], l[1:]) || !sameAll(other, l) {
			t.Errorf("%d: two lists of All share room", n)
		}
		spoil(all, api.Object{})
		tells("all")
	}
}

// What was told stays, whatever is done then.
func TestR3Stays(t *testing.T) {
	for _, n := range []int{0, 1, 3, 8, 9, 30} {
		h := made(t, 999, bare(-1, rows(n)...))
		o, _ := h.Object(0)
		l, k, all := h.Names(0), h.Keys(0), h.All()
		for i := range uint32(n) {
			h.Define(0, digits(i), plain(narrow("other"), "wec"))
			h.Delete(0, digits(i/2))
			h.Define(0, digits(100+i), only(null()))
		}
		h.Prevent(0)
		var want []string
		for i := range uint32(n) {
			want = append(want, digits(i))
		}
		if !sameObject(o, bare(-1, rows(n)...)) || !sameAll(all, []api.Object{o}) || !slices.Equal(l, want) || !slices.Equal(k, want) {
			t.Errorf("%d: what was told changed", n)
		}
	}
}

// nil and the empty list are the same.
func TestR3Nil(t *testing.T) {
	for _, o := range []api.Object{bare(-1), {Class: api.ClassObject, Proto: -1, Props: []api.Keyed{}, Bound: []api.Value{}}} {
		h := made(t, 9, o)
		defines(t, h, 0, "a", only(null()), true, api.OK)
		has(t, h, 0, keyed("a", plain(null(), "")))
	}
	for _, l := range [][]api.Object{nil, {}} {
		if h, e := heap.Load(l, 1); e != api.OK || h.Len() != 0 {
			t.Errorf("Load: %d", e)
		}
	}
}

// story does drawn things to a heap, and tells what is there at the end.
func story(h *heap.Heap) []api.Object {
	draw := draws(44)
	for range 400 {
		turn(h, draw)
	}
	return h.All()
}

// Heaps know nothing of one another, and the same calls tell the same.
func TestR4Alone(t *testing.T) {
	first := story(made(t, 500))
	var told [4][]api.Object
	var group sync.WaitGroup
	for i := range told {
		h := made(t, 500)
		group.Go(func() { told[i] = story(h) })
	}
	group.Wait()
	for _, l := range told {
		if !sameAll(l, first) {
			t.Error("the same calls told something else")
		}
	}
	a, b := made(t, 20, bare(-1)), made(t, 20, bare(-1))
	defines(t, a, 0, "x", only(null()), true, api.OK)
	a.Prevent(0)
	a.Take(5)
	if len(b.Names(0)) != 0 || b.Fixed(0) || b.Used() != 1 {
		t.Error("what was done to a heap is told by another one")
	}
}

// What is asked at the same time changes nothing.
func TestR4Asked(t *testing.T) {
	h := made(t, 999, array(20, "w", rows(20)...), box("ab", rows(9)[2:]...), bare(1, rows(3)...))
	want := h.All()
	var group sync.WaitGroup
	for range 4 {
		group.Go(func() {
			for o := range 3 {
				for _, key := range pool() {
					h.Own(o, key)
					h.Property(o, key)
					h.CanPut(o, key)
				}
				h.Names(o)
				h.Keys(o)
				h.Fixed(o)
			}
			if !sameAll(h.All(), want) || h.Used() != 34 || h.Len() != 3 {
				t.Error("it changed")
			}
		})
	}
	group.Wait()
}

// Texts that lie elsewhere are the same ones.
func TestR4Copies(t *testing.T) {
	for _, n := range []int{0, 3, 20} {
		h := made(t, 99, array(20, "w", rows(n)...), box("ab"))
		for _, s := range wides("a", "", "5", "length") {
			far := strings.Clone(s)
			h.Define(0, s, only(number(7)))
			if _, ok := h.Own(0, far); !ok {
				t.Errorf("the key %q and its copy", s)
			}
		}
		if p, _ := h.Own(0, strings.Clone(wide("length"))); p.Value.N != 7 {
			t.Errorf("a copy of length: %s", shown(p))
		}
		defines(t, h, 1, "0", only(text(strings.Clone(wide("a")))), true, api.OK)
	}
}
