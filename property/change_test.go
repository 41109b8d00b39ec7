package property_test

import (
	"maps"
	"testing"

	"quill/api"
	"quill/property"
)

const (
	fullData     = api.HasValue | api.HasWritable | api.HasEnumerable | api.HasConfigurable
	fullAccessor = api.HasGet | api.HasSet | api.HasEnumerable | api.HasConfigurable
)

// plain is a full descriptor of data; marks: which of w, e, c are so.
func plain(v api.Value, marks string) api.Prop {
	p := api.Prop{Has: fullData, Value: v}
	for _, mark := range marks {
		p.Writable = p.Writable || mark == 'w'
		p.Enumerable = p.Enumerable || mark == 'e'
		p.Configurable = p.Configurable || mark == 'c'
	}
	return p
}

// pair is a full descriptor of an accessor.
func pair(get, set api.Value, marks string) api.Prop {
	p := plain(undefined(), marks)
	p.Has, p.Get, p.Set = fullAccessor, get, set
	return p
}

// changed holds what Change tells; want without any part: it may not be.
func changed(t *testing.T, old, p, want api.Prop) {
	t.Helper()
	q, ok := property.Change(old, p)
	if ok != (want.Has != 0) || !equal(q, want) {
		t.Errorf("Change(%s, %s): %s, %v, not %s", shown(old), shown(p), shown(q), ok, shown(want))
	}
}

func TestPr2Fixed(t *testing.T) {
	no := api.Prop{}
	one, two, f, g := number(1), number(2), object(3), object(4)
	v, w, e, c := api.HasValue, api.HasWritable, api.HasEnumerable, api.HasConfigurable
	for _, row := range []struct{ old, p, want api.Prop }{
		// What all that are not configurable refuse, and what changes nothing.
		{plain(one, "we"), api.Prop{Has: c, Configurable: true}, no}, {pair(f, g, "e"), api.Prop{Has: c, Configurable: true}, no}, {plain(one, "we"), api.Prop{Has: c}, plain(one, "we")},
		{plain(one, "we"), api.Prop{Has: e}, no}, {plain(one, "w"), api.Prop{Has: e, Enumerable: true}, no}, {pair(f, g, ""), api.Prop{Has: e, Enumerable: true}, no}, {plain(one, "we"), api.Prop{Has: e, Enumerable: true}, plain(one, "we")}, {pair(f, g, ""), api.Prop{Has: e}, pair(f, g, "")},
		// Of the other sort.
		{plain(one, "we"), api.Prop{Has: api.HasGet, Get: f}, no}, {plain(one, "w"), api.Prop{Has: api.HasSet}, no}, {plain(undefined(), ""), api.Prop{Has: api.HasGet}, no}, {pair(f, g, ""), api.Prop{Has: v, Value: one}, no}, {pair(undefined(), undefined(), ""), api.Prop{Has: w}, no}, {pair(undefined(), undefined(), ""), api.Prop{Has: v}, no},
		// Of data, writable: all of data may become of it.
		{plain(one, "we"), api.Prop{Has: v, Value: two}, plain(two, "we")}, {plain(one, "we"), api.Prop{Has: w}, plain(one, "e")}, {plain(one, "w"), api.Prop{Has: v | w, Value: two}, plain(two, "")}, {plain(one, "w"), api.Prop{Has: w, Writable: true}, plain(one, "w")}, {plain(one, "w"), api.Prop{Has: v}, plain(undefined(), "w")},
		// Not writable.
		{plain(one, "e"), api.Prop{Has: v, Value: two}, no}, {plain(one, "e"), api.Prop{Has: v, Value: one}, plain(one, "e")}, {plain(one, "e"), api.Prop{Has: w, Writable: true}, no}, {plain(one, "e"), api.Prop{Has: w}, plain(one, "e")}, {plain(one, ""), api.Prop{Has: v | w, Value: one}, plain(one, "")}, {plain(one, ""), api.Prop{Has: v | w, Value: one, Writable: true}, no}, {plain(one, ""), api.Prop{Has: v}, no}, {plain(undefined(), ""), api.Prop{Has: v}, plain(undefined(), "")},
		// The same by layer 11's Same: a NaN is itself, noughts are not each other.
		{plain(number(none()), ""), api.Prop{Has: v, Value: number(none())}, plain(number(none()), "")}, {plain(number(0), ""), api.Prop{Has: v, Value: number(minus0())}, no}, {plain(number(minus0()), ""), api.Prop{Has: v, Value: number(0)}, no}, {plain(number(minus0()), ""), api.Prop{Has: v, Value: number(minus0())}, plain(number(minus0()), "")},
		{plain(text(wide("1")), ""), api.Prop{Has: v, Value: one}, no}, {plain(text(wide("a")), ""), api.Prop{Has: v, Value: text(wide("a"))}, plain(text(wide("a")), "")}, {plain(null(), ""), api.Prop{Has: v}, no}, {plain(object(1), ""), api.Prop{Has: v, Value: object(0)}, no},
		// Of an accessor.
		{pair(f, g, ""), api.Prop{Has: api.HasGet, Get: g}, no}, {pair(f, g, ""), api.Prop{Has: api.HasGet}, no}, {pair(f, g, ""), api.Prop{Has: api.HasGet, Get: f}, pair(f, g, "")}, {pair(f, g, ""), api.Prop{Has: api.HasSet, Set: f}, no}, {pair(f, g, ""), api.Prop{Has: api.HasSet, Set: g}, pair(f, g, "")}, {pair(f, g, "e"), api.Prop{Has: api.HasAccessor, Get: f, Set: g}, pair(f, g, "e")}, {pair(f, g, ""), api.Prop{Has: api.HasAccessor, Get: f, Set: f}, no}, {pair(f, g, ""), api.Prop{Has: api.HasAccessor, Get: g, Set: g}, no}, {pair(undefined(), g, ""), api.Prop{Has: api.HasGet, Get: f}, no}, {pair(undefined(), g, ""), api.Prop{Has: api.HasGet}, pair(undefined(), g, "")},
	} {
		changed(t, row.old, row.p, row.want)
	}
}

func TestPr2Configurable(t *testing.T) {
	one, two, f, g := number(1), number(2), object(3), object(4)
	v, w, e, c := api.HasValue, api.HasWritable, api.HasEnumerable, api.HasConfigurable
	for _, row := range []struct{ old, p, want api.Prop }{
		// All may become of it.
		{plain(one, "c"), api.Prop{Has: v, Value: two}, plain(two, "c")}, {plain(one, "c"), api.Prop{Has: w, Writable: true}, plain(one, "wc")}, {plain(one, "wec"), api.Prop{Has: e}, plain(one, "wc")}, {plain(one, "wec"), api.Prop{Has: c}, plain(one, "we")}, {plain(one, "wec"), api.Prop{Has: fullData, Value: two}, plain(two, "")}, {plain(number(0), "c"), api.Prop{Has: v, Value: number(minus0())}, plain(number(minus0()), "c")},
		{pair(f, g, "c"), api.Prop{Has: api.HasGet}, pair(undefined(), g, "c")}, {pair(f, g, "c"), api.Prop{Has: api.HasSet | e, Set: f, Enumerable: true}, pair(f, f, "ec")},
		// Of the other sort: enumerable and configurable stay, unless p has them.
		{plain(one, "wec"), api.Prop{Has: api.HasGet, Get: f}, pair(f, undefined(), "ec")}, {plain(one, "wc"), api.Prop{Has: api.HasSet, Set: g}, pair(undefined(), g, "c")}, {plain(one, "wec"), api.Prop{Has: api.HasGet | e | c, Get: f}, pair(f, undefined(), "")}, {plain(one, "c"), api.Prop{Has: api.HasAccessor | e, Get: f, Set: g, Enumerable: true}, pair(f, g, "ec")},
		{pair(f, g, "ec"), api.Prop{Has: v, Value: one}, plain(one, "ec")}, {pair(f, g, "c"), api.Prop{Has: w, Writable: true}, plain(undefined(), "wc")}, {pair(f, g, "c"), api.Prop{Has: w}, plain(undefined(), "c")}, {pair(f, g, "ec"), api.Prop{Has: v | w | c, Value: one, Writable: true}, plain(one, "we")},
		// Of a generic one the sort stays.
		{pair(f, g, "ec"), api.Prop{Has: e}, pair(f, g, "c")}, {pair(f, g, "c"), api.Prop{Has: c}, pair(f, g, "")}, {pair(f, g, "c"), api.Prop{Has: e | c, Enumerable: true, Configurable: true}, pair(f, g, "ec")}, {pair(f, g, "c"), api.Prop{}, pair(f, g, "c")}, {plain(one, "wc"), api.Prop{}, plain(one, "wc")},
	} {
		changed(t, row.old, row.p, row.want)
	}
}

// steps is 8.12.9, steps 5 to 12, of records; false: reject.
func steps(current, desc record) (record, bool) {
	every := true // 5 and 6
	for part, v := range desc {
		w, ok := current[part]
		every = every && ok && alike(v, w) // there is one NaN
	}
	if every {
		return current, true
	}
	fixed := !current[api.HasConfigurable].B
	enumerable, ok := desc[api.HasEnumerable]
	if fixed && (desc[api.HasConfigurable].B || ok && enumerable.B != current[api.HasEnumerable].B) { // 7
		return nil, false
	}
	now := maps.Clone(current)
	was, is := current.data(), desc.data()
	switch {
	case !is && !desc.accessor(): // 8
	case was != is: // 9
		if fixed {
			return nil, false
		}
		now = record{api.HasEnumerable: current[api.HasEnumerable], api.HasConfigurable: current[api.HasConfigurable]}
		if was {
			now[api.HasGet], now[api.HasSet] = undefined(), undefined()
		} else {
			now[api.HasValue], now[api.HasWritable] = undefined(), truth(false)
		}
	case was: // 10
		if fixed && !current[api.HasWritable].B && (desc[api.HasWritable].B || desc.turns(current, api.HasValue)) {
			return nil, false
		}
	default: // 11
		if fixed && (desc.turns(current, api.HasSet) || desc.turns(current, api.HasGet)) {
			return nil, false
		}
	}
	maps.Copy(now, desc) // 12
	return now, true
}

func (r record) data() bool {
	_, value := r[api.HasValue]
	_, writable := r[api.HasWritable]
	return value || writable
}

func (r record) accessor() bool {
	_, get := r[api.HasGet]
	_, set := r[api.HasSet]
	return get || set
}

// turns tells whether r has a part, and another one than current.
func (r record) turns(current record, part int) bool {
	v, ok := r[part]
	return ok && !alike(v, current[part])
}

// Each full descriptor, and each that may be defined over it.
func TestPr2EachTwo(t *testing.T) {
	met := map[bool]int{}
	l := props()
	for _, old := range fulls() {
		for _, p := range l {
			want, ok := steps(recordOf(old), recordOf(p))
			changed(t, old, p, want.prop())
			met[ok]++
		}
	}
	if met[true] < 20000 || met[false] < 20000 {
		t.Errorf("%d may be, %d may not be", met[true], met[false])
	}
}
