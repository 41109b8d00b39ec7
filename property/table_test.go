package property_test

import (
	"slices"
	"strconv"
	"testing"

	"quill/api"
	"quill/property"
)

// marked is a descriptor that a test knows again.
func marked(n int) api.Prop { return api.Prop{Has: fullData, Value: number(float64(n))} }

// listed is a table of these keys, each marked with its place.
func listed(keys ...string) []api.Keyed {
	var l []api.Keyed
	for i, key := range keys {
		l = append(l, api.Keyed{Key: key, P: marked(i)})
	}
	return l
}

// sameTable tells whether two tables are the same, to the bit.
func sameTable(a, b []api.Keyed) bool {
	return slices.EqualFunc(a, b, func(x, y api.Keyed) bool { return x.Key == y.Key && equal(x.P, y.P) })
}

// keysOf are a table's keys, for a fault's text.
func keysOf(l []api.Keyed) string {
	s := ""
	for _, x := range l {
		s += " " + strconv.Quote(x.Key) + shown(x.P)
	}
	return "[" + s + "]"
}

func table(t *testing.T, call string, l, want []api.Keyed) {
	t.Helper()
	if !sameTable(l, want) {
		t.Errorf("%s: %s, not %s", call, keysOf(l), keysOf(want))
	}
}

func TestPr3Find(t *testing.T) {
	a, b, c := wide("a"), wide("b"), wide("c")
	for _, row := range []struct {
		l    []api.Keyed
		key  string
		want int
	}{
		{nil, a, -1}, {nil, "", -1}, {[]api.Keyed{}, a, -1}, {listed(a), a, 0}, {listed(a, b, c), a, 0}, {listed(a, b, c), b, 1}, {listed(a, b, c), c, 2}, {listed(a, c), b, -1}, {listed(c, b, a), a, 2},
		{listed(""), "", 0}, {listed(a, ""), "", 1}, {listed(a, b), "", -1}, {listed(wide("ab")), a, -1}, {listed(a), wide("ab"), -1}, {listed(a), wide("A"), -1}, {listed(wide("1")), wide("01"), -1},
		// Byte by byte, also the last one of an odd number.
		{listed("\x00a\x00", a), a, 1}, {listed(a, "\x00a\x00"), "\x00a\x00", 1}, {listed(a), "\x00a\x00", -1}, {listed("\x00"), "", -1}, {listed(""), "\x00", -1}, {listed("a", "b"), "b", 1},
		// The first of several.
		{listed(b, a, a), a, 1}, {listed(a, a, a), a, 0},
	} {
		if i := property.Find(row.l, row.key); i != row.want {
			t.Errorf("Find(%s, %q): %d, not %d", keysOf(row.l), row.key, i, row.want)
		}
	}
}

func TestPr3Put(t *testing.T) {
	a, b, c, p := wide("a"), wide("b"), wide("c"), marked(9)
	at := func(l []api.Keyed, i int) []api.Keyed { l[i].P = p; return l }
	for _, row := range []struct {
		l    []api.Keyed
		key  string
		want []api.Keyed
	}{
		{nil, a, at(listed(a), 0)}, {[]api.Keyed{}, "", at(listed(""), 0)}, {listed(a, b, c), a, at(listed(a, b, c), 0)}, {listed(a, b, c), b, at(listed(a, b, c), 1)}, {listed(a, b, c), c, at(listed(a, b, c), 2)}, {listed(b, c), a, at(listed(b, c, a), 2)}, {listed(a), wide("A"), at(listed(a, wide("A")), 1)},
		{listed(a), "\x00a\x00", at(listed(a, "\x00a\x00"), 1)}, {listed("\x00a\x00"), a, at(listed("\x00a\x00", a), 1)}, {listed("a", a), "a", at(listed("a", a), 0)}, {listed(""), "\x00", at(listed("", "\x00"), 1)},
		// Array indexes stand no other way than other keys.
		{listed(wide("2"), a), wide("1"), at(listed(wide("2"), a, wide("1")), 2)},
		{listed(b, a, a), a, at(listed(b, a, a), 1)},
	} {
		table(t, "Put of "+keysOf(row.l), property.Put(row.l, row.key, p), row.want)
	}
}

func TestPr3Remove(t *testing.T) {
	a, b, c := wide("a"), wide("b"), wide("c")
	without := func(l []api.Keyed, i int) []api.Keyed { return append(l[:i], l[i+1:]...) }
	for _, row := range []struct {
		l    []api.Keyed
		key  string
		want []api.Keyed
	}{
		{nil, a, nil}, {listed(a), a, nil}, {listed(a), b, listed(a)}, {listed(a, b, c), a, without(listed(a, b, c), 0)}, {listed(a, b, c), b, without(listed(a, b, c), 1)}, {listed(a, b, c), c, without(listed(a, b, c), 2)}, {listed(a, b), "", listed(a, b)}, {listed(a, "", b), "", without(listed(a, "", b), 1)},
		{listed("\x00a\x00", a), a, without(listed("\x00a\x00", a), 1)}, {listed(a, "\x00a\x00"), "\x00a\x00", without(listed(a, "\x00a\x00"), 1)}, {listed(a), "\x00a\x00", listed(a)}, {listed(""), "\x00", listed("")},
		{listed(b, a, a), a, without(listed(b, a, a), 1)},
	} {
		table(t, "Remove of "+keysOf(row.l), property.Remove(row.l, row.key), row.want)
	}
}

// What may not be is kept as it is, to the bit: parts without their bits, bits that are
// none, NaNs, odd texts.
func TestPr3Anything(t *testing.T) {
	a, b := wide("a"), wide("b")
	for _, p := range combined() {
		if mayBe(p) {
			continue
		}
		l := property.Put(listed(a), b, p)
		table(t, "Put behind", l, []api.Keyed{{Key: a, P: marked(0)}, {Key: b, P: p}})
		table(t, "Put in place", property.Put(l, a, p), []api.Keyed{{Key: a, P: p}, {Key: b, P: p}})
		table(t, "Put of another", property.Put(l, a, marked(1)), []api.Keyed{{Key: a, P: marked(1)}, {Key: b, P: p}})
		table(t, "Remove of another", property.Remove(l, a), []api.Keyed{{Key: b, P: p}})
		if i := property.Find(l, b); i != 1 {
			t.Errorf("Find behind Put of %s: %d", shown(p), i)
		}
	}
}

// model is a table told in another way: the marks of the keys, and their order.
type model struct {
	marks map[string]int
	order []string
}

func (m *model) put(key string, n int) {
	if _, ok := m.marks[key]; !ok {
		m.order = append(m.order, key)
	}
	m.marks[key] = n
}

func (m *model) remove(key string) {
	delete(m.marks, key)
	m.order = slices.DeleteFunc(m.order, func(s string) bool { return s == key })
}

func (m *model) table() []api.Keyed {
	var l []api.Keyed
	for _, key := range m.order {
		l = append(l, api.Keyed{Key: key, P: marked(m.marks[key])})
	}
	return l
}

// Drawn Puts and Removes one behind the other; all that came before stay as they were.
func TestPr3Drawn(t *testing.T) {
	draw := draws(3)
	keys := []string{"", "\x00", wide("a"), wide("b"), wide("ab"), wide("0"), wide("1"), wide("10"), "\x00a\x00", "\xFF\xFF", "a"}
	m := &model{marks: map[string]int{}}
	var l []api.Keyed
	var old, copies [][]api.Keyed
	for n := range 4000 {
		key := keys[draw()%uint64(len(keys))]
		if draw()%2 == 0 {
			l = property.Put(l, key, marked(n))
			m.put(key, n)
		} else {
			l = property.Remove(l, key)
			m.remove(key)
		}
		table(t, "step "+strconv.Itoa(n), l, m.table())
		for _, key := range keys {
			if i := property.Find(l, key); i != slices.Index(m.order, key) {
				t.Fatalf("step %d: Find(%q): %d", n, key, i)
			}
		}
		old, copies = append(old, l), append(copies, m.table())
	}
	for i := range old {
		table(t, "behind all, step "+strconv.Itoa(i), old[i], copies[i])
	}
}
