package property_test

import (
	"math"
	"testing"

	"quill/api"
	"quill/property"
)

func TestPr1CheckRows(t *testing.T) {
	for _, row := range []struct {
		p    api.Prop
		want api.Errno
	}{
		{api.Prop{}, api.OK},
		{api.Prop{Has: api.HasValue}, api.OK}, {api.Prop{Has: api.HasValue, Value: number(minus0())}, api.OK}, {api.Prop{Has: api.HasValue, Value: number(none())}, api.OK}, {api.Prop{Has: api.HasValue, Value: object(0)}, api.OK},
		{api.Prop{Has: api.HasWritable}, api.OK}, {api.Prop{Has: api.HasWritable, Writable: true}, api.OK}, {api.Prop{Has: api.HasEnumerable, Enumerable: true}, api.OK}, {api.Prop{Has: api.HasConfigurable, Configurable: true}, api.OK},
		{api.Prop{Has: api.HasGet}, api.OK}, {api.Prop{Has: api.HasSet}, api.OK}, {api.Prop{Has: api.HasGet, Get: object(3)}, api.OK}, {api.Prop{Has: api.HasSet, Set: object(math.MaxInt)}, api.OK}, {api.Prop{Has: api.HasAccessor, Get: object(3), Set: object(3)}, api.OK},
		{api.Prop{Has: 64}, api.ErrProp}, {api.Prop{Has: 127}, api.ErrProp}, {api.Prop{Has: -1}, api.ErrProp}, {api.Prop{Has: math.MinInt}, api.ErrProp},
		{api.Prop{Value: number(1)}, api.ErrProp}, {api.Prop{Value: null()}, api.ErrProp}, {api.Prop{Value: number(0)}, api.ErrProp}, {api.Prop{Has: api.HasWritable, Value: text("")}, api.ErrProp}, {api.Prop{Value: api.Value{N: minus0()}}, api.ErrProp},
		{api.Prop{Writable: true}, api.ErrProp}, {api.Prop{Has: api.HasValue, Writable: true}, api.ErrProp}, {api.Prop{Enumerable: true}, api.ErrProp}, {api.Prop{Configurable: true}, api.ErrProp},
		{api.Prop{Get: object(0)}, api.ErrProp}, {api.Prop{Has: api.HasSet, Get: object(1)}, api.ErrProp}, {api.Prop{Has: api.HasGet, Set: object(0)}, api.ErrProp}, {api.Prop{Has: api.HasValue, Set: object(0)}, api.ErrProp},
		{api.Prop{Has: api.HasValue, Value: number(other())}, api.ErrProp}, {api.Prop{Has: api.HasValue, Value: text("a")}, api.ErrProp}, {api.Prop{Has: api.HasValue, Value: object(-1)}, api.ErrProp}, {api.Prop{Has: api.HasValue, Value: api.Value{Kind: api.KindEmpty}}, api.ErrProp}, {api.Prop{Has: api.HasValue, Value: api.Value{O: 1}}, api.ErrProp},
		{api.Prop{Has: api.HasGet, Get: null()}, api.ErrProp}, {api.Prop{Has: api.HasGet, Get: number(0)}, api.ErrProp}, {api.Prop{Has: api.HasGet, Get: object(-1)}, api.ErrProp}, {api.Prop{Has: api.HasSet, Set: text("")}, api.ErrProp}, {api.Prop{Has: api.HasSet, Set: truth(false)}, api.ErrProp}, {api.Prop{Has: api.HasSet, Set: api.Value{Kind: api.KindObject, N: 1}}, api.ErrProp},
		{api.Prop{Has: api.HasValue | api.HasGet}, api.ErrProp}, {api.Prop{Has: api.HasValue | api.HasSet}, api.ErrProp}, {api.Prop{Has: api.HasWritable | api.HasGet}, api.ErrProp}, {api.Prop{Has: api.HasWritable | api.HasSet}, api.ErrProp}, {api.Prop{Has: 63}, api.ErrProp},
	} {
		if errno := property.Check(row.p); errno != row.want {
			t.Errorf("Check(%s): %d, not %d", shown(row.p), errno, row.want)
		}
	}
}

// mayBe tells by the chapter's words whether a descriptor may be.
func mayBe(p api.Prop) bool {
	if p.Has < 0 || p.Has > 63 || !equal(recordOf(p).prop(), p) {
		return false
	}
	data, accessor := p.Has&(api.HasValue|api.HasWritable) != 0, p.Has&(api.HasGet|api.HasSet) != 0
	for _, v := range []api.Value{p.Get, p.Set} {
		if !alike(v, undefined()) && (!alike(v, object(v.O)) || v.O < 0) {
			return false
		}
	}
	return !(data && accessor) && known(p.Value)
}

// known tells of the values of combined and of props whether they may be.
func known(v api.Value) bool {
	for _, w := range values() {
		if alike(v, w) {
			return true
		}
	}
	return false
}

func TestPr1CheckAll(t *testing.T) {
	met := map[bool]int{}
	for _, l := range [][]api.Prop{combined(), props()} {
		for _, p := range l {
			want := api.OK
			if !mayBe(p) {
				want = api.ErrProp
			}
			met[want == api.OK]++
			if errno := property.Check(p); errno != want {
				t.Errorf("Check(%s): %d, not %d", shown(p), errno, want)
			}
		}
	}
	if met[true] < 500 || met[false] < 50000 {
		t.Errorf("%d may be, %d may not be", met[true], met[false])
	}
}

func TestPr1Sorts(t *testing.T) {
	for has := range 64 {
		data, accessor := has&1 != 0 || has&8 != 0, has&2 != 0 || has&4 != 0
		p := api.Prop{Has: has}
		if property.Data(p) != data || property.Accessor(p) != accessor {
			t.Errorf("of the bits %d: Data %v, Accessor %v", has, property.Data(p), property.Accessor(p))
		}
	}
}

func TestPr1FullRows(t *testing.T) {
	for _, row := range []struct{ p, want api.Prop }{
		{api.Prop{}, api.Prop{Has: 1 + 8 + 16 + 32}},
		{api.Prop{Has: api.HasValue, Value: number(none())}, api.Prop{Has: 1 + 8 + 16 + 32, Value: number(none())}},
		{api.Prop{Has: api.HasWritable | api.HasConfigurable, Writable: true, Configurable: true}, api.Prop{Has: 1 + 8 + 16 + 32, Writable: true, Configurable: true}},
		{api.Prop{Has: api.HasEnumerable, Enumerable: true}, api.Prop{Has: 1 + 8 + 16 + 32, Enumerable: true}},
		{api.Prop{Has: api.HasGet, Get: object(3)}, api.Prop{Has: 2 + 4 + 16 + 32, Get: object(3)}},
		{api.Prop{Has: api.HasSet}, api.Prop{Has: 2 + 4 + 16 + 32}},
		{api.Prop{Has: api.HasSet | api.HasEnumerable, Set: object(0), Enumerable: true}, api.Prop{Has: 2 + 4 + 16 + 32, Set: object(0), Enumerable: true}},
	} {
		if p := property.Full(row.p); !equal(p, row.want) {
			t.Errorf("Full(%s): %s, not %s", shown(row.p), shown(p), shown(row.want))
		}
	}
}

// filled is 8.12.9, step 4, of a record.
func filled(r record) record {
	l := []int{api.HasValue, api.HasWritable}
	_, get := r[api.HasGet]
	_, set := r[api.HasSet]
	if get || set {
		l = []int{api.HasGet, api.HasSet}
	}
	for _, part := range append(l, api.HasEnumerable, api.HasConfigurable) {
		if _, ok := r[part]; !ok {
			r[part] = undefined()
		}
	}
	return r
}

func TestPr1FullAll(t *testing.T) {
	for _, p := range props() {
		if q, want := property.Full(p), filled(recordOf(p)).prop(); !equal(q, want) {
			t.Errorf("Full(%s): %s, not %s", shown(p), shown(q), shown(want))
		}
	}
}

func TestPr1Plain(t *testing.T) {
	for _, v := range values() {
		for i := range 8 {
			w, e, c := i&1 != 0, i&2 != 0, i&4 != 0
			want := api.Prop{Has: 1 + 8 + 16 + 32, Value: v, Writable: w, Enumerable: e, Configurable: c}
			if p := property.Plain(v, w, e, c); !equal(p, want) {
				t.Errorf("Plain: %s, not %s", shown(p), shown(want))
			}
		}
	}
}

// Each two of all descriptors that may be, and, where just bits of floats differ, of
// others.
func TestPr3Same(t *testing.T) {
	l := props()
	for _, x := range []float64{0, minus0(), none(), other(), 1} {
		l = append(l, api.Prop{Has: api.HasValue, Value: api.Value{N: x}}, api.Prop{Get: api.Value{N: x}}, api.Prop{Set: api.Value{N: x}})
	}
	for _, a := range l {
		for _, b := range l {
			if same := property.Same(a, b); same != equal(a, b) {
				t.Errorf("Same(%s, %s): %v", shown(a), shown(b), same)
			}
		}
	}
}

// One part other than it was, whichever.
func TestPr3SameParts(t *testing.T) {
	old := api.Prop{Has: 63, Value: number(1), Get: object(1), Set: object(1), Writable: true, Enumerable: true, Configurable: true}
	if !property.Same(old, old) {
		t.Error("not the same as itself")
	}
	for i, turn := range []func(p *api.Prop){
		func(p *api.Prop) { p.Has = 62 }, func(p *api.Prop) { p.Has = 0 },
		func(p *api.Prop) { p.Value.N = 2 }, func(p *api.Prop) { p.Value = text(wide("1")) }, func(p *api.Prop) { p.Value.Kind = api.KindNull },
		func(p *api.Prop) { p.Get.O = 2 }, func(p *api.Prop) { p.Get = undefined() }, func(p *api.Prop) { p.Set.O = 2 }, func(p *api.Prop) { p.Set = undefined() },
		func(p *api.Prop) { p.Writable = false }, func(p *api.Prop) { p.Enumerable = false }, func(p *api.Prop) { p.Configurable = false },
	} {
		p := old
		turn(&p)
		if property.Same(old, p) || property.Same(p, old) || !property.Same(p, p) {
			t.Errorf("turn %d: %s", i, shown(p))
		}
	}
}
