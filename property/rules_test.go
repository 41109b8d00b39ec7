package property_test

import (
	"math"
	"slices"
	"strings"
	"sync"
	"testing"

	"quill/api"
	"quill/property"
)

// answers are all that is told of two descriptors.
type answers struct {
	check                api.Errno
	accessor, data, same bool
	full, changed        api.Prop
	ok                   bool
}

func ask(a, b api.Prop) answers {
	x := answers{check: property.Check(a), accessor: property.Accessor(a), data: property.Data(a), same: property.Same(a, b), full: property.Full(a)}
	x.changed, x.ok = property.Change(a, b)
	return x
}

func (x answers) equal(y answers) bool {
	return x.check == y.check && x.accessor == y.accessor && x.data == y.data && x.same == y.same && x.ok == y.ok && equal(x.full, y.full) && equal(x.changed, y.changed)
}

// anyTwo calls f with descriptors of all sorts, such as may not be among them.
func anyTwo(f func(a, b api.Prop)) {
	bad, good := combined(), props()
	for i, a := range bad {
		b, c := good[i%len(good)], bad[(i*31+7)%len(bad)]
		f(a, b)
		f(b, a)
		f(a, c)
		f(a, a)
	}
}

func TestR1NoPanic(t *testing.T) {
	anyTwo(func(a, b api.Prop) { ask(a, b) })
	for _, v := range []api.Value{{Kind: -1}, {Kind: api.KindEmpty}, object(-1), number(other()), text("a"), {Kind: math.MaxInt, N: none()}} {
		property.Plain(v, true, true, true)
	}
	for _, l := range [][]api.Keyed{nil, {}, make([]api.Keyed, 0, 3), make([]api.Keyed, 3)} {
		for _, key := range []string{"", "\x00", "\x00a", "\xFF\xFF\xFF"} {
			property.Find(l, key)
			property.Put(l, key, api.Prop{Has: -1})
			property.Remove(l, key)
			property.Index(key)
		}
	}
	for _, i := range []uint32{0, 1, math.MaxUint32} {
		property.Key(i)
	}
}

// Long tables and long keys.
func TestR1Ends(t *testing.T) {
	const size = 1 << 16
	var l []api.Keyed
	for i := range uint32(size) {
		l = append(l, api.Keyed{Key: property.Key(i), P: marked(int(i))})
	}
	if i := property.Find(l, property.Key(size-1)); i != size-1 {
		t.Errorf("Find of the last one: %d", i)
	}
	if m := property.Put(l, property.Key(size), marked(0)); len(m) != size+1 || len(property.Remove(m, property.Key(0))) != size {
		t.Errorf("Put into a long table: %d", len(m))
	}
	long := wide(strings.Repeat("a", 1<<20))
	l = property.Put(listed(long+"\x00", long+wide("b")), long, marked(5))
	if property.Find(l, long) != 2 || property.Find(property.Remove(l, long), long) != -1 {
		t.Error("long keys")
	}
}

// Beside a false there is nothing, and there is no error but ErrProp.
func TestR2NothingBesideFalse(t *testing.T) {
	met := 0
	anyTwo(func(a, b api.Prop) {
		x := ask(a, b)
		if x.check != api.OK && x.check != api.ErrProp {
			t.Errorf("Check(%s): %d", shown(a), x.check)
		}
		if !x.ok {
			met++
			if !equal(x.changed, api.Prop{}) {
				t.Errorf("Change(%s, %s): %s and false", shown(a), shown(b), shown(x.changed))
			}
		}
	})
	if met < 1000 {
		t.Errorf("%d were refused", met)
	}
}

// roomy is a table with room behind its end, in which something stands, and that room.
func roomy(keys ...string) (l, room []api.Keyed) {
	all := append(listed(keys...), listed(wide("x"), wide("y"), wide("z"))...)
	return all[:len(keys)], all[len(keys):]
}

// spoil overwrites a table and the room behind it.
func spoil(l []api.Keyed) {
	l = l[:cap(l)]
	for i := range l {
		l[i] = api.Keyed{Key: wide("spoilt"), P: api.Prop{Has: -1}}
	}
}

// What is handed in is not changed, nor the room behind it; what is told is new.
func TestR3NewMemory(t *testing.T) {
	keys := []string{wide("a"), wide("b"), wide("c")}
	for n := range len(keys) + 1 {
		for _, key := range append(keys, wide("d"), "") {
			for name, call := range map[string]func(l []api.Keyed) []api.Keyed{
				"Put":    func(l []api.Keyed) []api.Keyed { return property.Put(l, key, marked(7)) },
				"Remove": func(l []api.Keyed) []api.Keyed { return property.Remove(l, key) },
			} {
				l, room := roomy(keys[:n]...)
				first, second := call(l), call(l)
				want := slices.Clone(second)
				table(t, name+": what was handed in", l, listed(keys[:n]...))
				table(t, name+": the room behind it", room, listed(wide("x"), wide("y"), wide("z")))
				spoil(first)
				table(t, name+": spoilt the answer", l, listed(keys[:n]...))
				table(t, name+": spoilt the answer, the room", room, listed(wide("x"), wide("y"), wide("z")))
				table(t, name+": spoilt another answer", second, want)
				spoil(l)
				table(t, name+": spoilt what was handed in", second, want)
			}
		}
	}
}

// nil and the empty table are the same.
func TestR3Nil(t *testing.T) {
	for _, l := range [][]api.Keyed{nil, {}} {
		table(t, "Put", property.Put(l, "", marked(1)), []api.Keyed{{P: marked(1)}})
		table(t, "Remove", property.Remove(l, ""), nil)
		if i := property.Find(l, ""); i != -1 {
			t.Errorf("Find: %d", i)
		}
	}
}

func TestR4OnlyArguments(t *testing.T) {
	all := func() []answers {
		var l []answers
		n := 0
		anyTwo(func(a, b api.Prop) {
			if n++; n%17 == 0 {
				l = append(l, ask(a, b))
			}
		})
		return l
	}
	first := all()
	var told [4][]answers
	var group sync.WaitGroup
	for i := range told {
		group.Go(func() { told[i] = all() })
	}
	group.Wait()
	for _, l := range told {
		if !slices.EqualFunc(l, first, answers.equal) {
			t.Error("the same calls told something else")
		}
	}
}

// Texts that lie elsewhere are the same ones.
func TestR4Copies(t *testing.T) {
	for _, s := range []string{"", wide("a"), wide("12"), "\x00a\x00"} {
		far := strings.Clone(s)
		if property.Find(listed(wide("z"), s), far) != 1 || len(property.Put(listed(s), far, marked(1))) != 1 || len(property.Remove(listed(s), far)) != 0 {
			t.Errorf("the key %q and its copy", s)
		}
		a, b := plain(text(s), ""), api.Prop{Has: api.HasValue, Value: text(far)}
		if _, ok := property.Change(a, b); !ok || !property.Same(a, plain(text(far), "")) {
			t.Errorf("the value %q and its copy", s)
		}
	}
}
