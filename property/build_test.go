package property_test

import (
	"math"
	"strconv"
	"strings"

	"quill/api"
	"quill/ustr"
)

// Values and descriptors are built here part by part, so that they hang on nothing
// that is tested.

func undefined() api.Value       { return api.Value{} }
func null() api.Value            { return api.Value{Kind: api.KindNull} }
func truth(b bool) api.Value     { return api.Value{Kind: api.KindBool, B: b} }
func number(x float64) api.Value { return api.Value{Kind: api.KindNumber, N: x} }
func text(s string) api.Value    { return api.Value{Kind: api.KindString, S: s} }
func object(o int) api.Value     { return api.Value{Kind: api.KindObject, O: o} }
func wide(b string) string       { return ustr.Wide(b) }

// none is the NaN that may be; other has other bits.
func none() float64   { return math.Float64frombits(0x7FF8000000000000) }
func other() float64  { return math.Float64frombits(0x7FF8000000000001) }
func minus0() float64 { return math.Copysign(0, -1) }

// alike tells whether two values are the same, part by part, to the bit.
func alike(a, b api.Value) bool {
	return a.Kind == b.Kind && a.B == b.B && math.Float64bits(a.N) == math.Float64bits(b.N) && a.S == b.S && a.O == b.O
}

// equal tells whether two descriptors are the same, part by part, to the bit.
func equal(a, b api.Prop) bool {
	return a.Has == b.Has && alike(a.Value, b.Value) && alike(a.Get, b.Get) && alike(a.Set, b.Set) && a.Writable == b.Writable && a.Enumerable == b.Enumerable && a.Configurable == b.Configurable
}

// values are of all kinds; of numbers such as == has alike and not.
func values() []api.Value {
	return []api.Value{undefined(), null(), truth(true), number(0), number(minus0()), number(1), number(none()), text(""), text(wide("a")), text(wide("1")), object(0), object(1)}
}

// calls are what getters and setters may be.
func calls() []api.Value { return []api.Value{undefined(), object(0), object(3)} }

// truths are the ways in which a descriptor may have a truth.
func truths(bit int) []api.Prop {
	yes := api.Prop{Has: bit}
	switch bit {
	case api.HasWritable:
		yes.Writable = true
	case api.HasEnumerable:
		yes.Enumerable = true
	case api.HasConfigurable:
		yes.Configurable = true
	}
	return []api.Prop{{}, {Has: bit}, yes}
}

// both are the descriptors with the parts of one of a and of one of b.
func both(a, b []api.Prop) []api.Prop {
	var l []api.Prop
	for _, p := range a {
		for _, q := range b {
			p, q := recordOf(p), recordOf(q)
			for part, v := range q {
				p[part] = v
			}
			l = append(l, p.prop())
		}
	}
	return l
}

// datas and accessors are what descriptors may have of one sort, and nothing.
func datas() []api.Prop {
	l := []api.Prop{{}}
	for _, v := range values() {
		l = append(l, api.Prop{Has: api.HasValue, Value: v})
	}
	return both(l, truths(api.HasWritable))
}

func accessors() []api.Prop {
	gets, sets := []api.Prop{{}}, []api.Prop{{}}
	for _, v := range calls() {
		gets = append(gets, api.Prop{Has: api.HasGet, Get: v})
		sets = append(sets, api.Prop{Has: api.HasSet, Set: v})
	}
	return both(gets, sets)
}

// props are descriptors that may be: each way to have parts, and not to have them.
func props() []api.Prop {
	sorts := append(datas(), accessors()[1:]...) // having nothing comes once
	return both(sorts, both(truths(api.HasEnumerable), truths(api.HasConfigurable)))
}

// fulls are those that are full.
func fulls() []api.Prop {
	var l []api.Prop
	for _, p := range props() {
		if whole(p) {
			l = append(l, p)
		}
	}
	return l
}

// whole tells by the chapter's words whether a descriptor is full.
func whole(p api.Prop) bool {
	switch p.Has {
	case api.HasValue | api.HasWritable | api.HasEnumerable | api.HasConfigurable, api.HasGet | api.HasSet | api.HasEnumerable | api.HasConfigurable:
		return true
	}
	return false
}

// bits are what Has may be, and much that it may not be.
func bits() []int {
	l := []int{math.MinInt, -1, -64, 1 << 20, math.MaxInt}
	for i := range 128 {
		l = append(l, i)
	}
	return l
}

// combined are descriptors with parts of all sorts, most of which may not be.
func combined() []api.Prop {
	var l []api.Prop
	for _, has := range bits() {
		for _, v := range []api.Value{undefined(), {N: minus0()}, {B: true}, null(), number(1), number(none()), number(other()), text(wide("a")), text("a"), object(0), object(-1), {Kind: api.KindEmpty}, {Kind: -1}} {
			for _, f := range [][2]api.Value{{}, {object(0)}, {undefined(), object(0)}, {object(1), object(2)}, {null()}, {undefined(), number(1)}, {object(-1)}, {undefined(), {N: none()}}, {text(""), truth(true)}} {
				for i := range 8 {
					l = append(l, api.Prop{Has: has, Value: v, Get: f[0], Set: f[1], Writable: i&1 != 0, Enumerable: i&2 != 0, Configurable: i&4 != 0})
				}
			}
		}
	}
	return l
}

// record is what a descriptor has: its parts by their bits, truths as values.
type record map[int]api.Value

func recordOf(p api.Prop) record {
	r := record{}
	for part, v := range map[int]api.Value{
		api.HasValue: p.Value, api.HasGet: p.Get, api.HasSet: p.Set,
		api.HasWritable: truth(p.Writable), api.HasEnumerable: truth(p.Enumerable), api.HasConfigurable: truth(p.Configurable),
	} {
		if p.Has&part != 0 {
			r[part] = v
		}
	}
	return r
}

// prop is the descriptor that has just what is recorded.
func (r record) prop() api.Prop {
	p := api.Prop{Value: r[api.HasValue], Get: r[api.HasGet], Set: r[api.HasSet], Writable: r[api.HasWritable].B, Enumerable: r[api.HasEnumerable].B, Configurable: r[api.HasConfigurable].B}
	for part := range r {
		p.Has |= part
	}
	return p
}

// shown is a descriptor for a fault's text.
func shown(p api.Prop) string {
	l := []string{"bits " + strconv.Itoa(p.Has)}
	for _, part := range []struct {
		name string
		v    api.Value
	}{{"value", p.Value}, {"get", p.Get}, {"set", p.Set}} {
		if !alike(part.v, undefined()) {
			l = append(l, part.name+" "+named(part.v))
		}
	}
	for _, part := range []struct {
		name string
		b    bool
	}{{"writable", p.Writable}, {"enumerable", p.Enumerable}, {"configurable", p.Configurable}} {
		if part.b {
			l = append(l, part.name)
		}
	}
	return "{" + strings.Join(l, ", ") + "}"
}

func named(v api.Value) string {
	switch v.Kind {
	case api.KindNumber:
		return strconv.FormatFloat(v.N, 'g', -1, 64)
	case api.KindString:
		return strconv.Quote(ustr.Encode(v.S))
	case api.KindObject:
		return "object " + strconv.Itoa(v.O)
	}
	return "of kind " + strconv.Itoa(v.Kind)
}

// draws tells numbers one after the other that look like chance, the same each time.
func draws(seed uint64) func() uint64 {
	state := seed
	return func() uint64 {
		state += 0x9E3779B97F4A7C15
		z := (state ^ state>>30) * 0xBF58476D1CE4E5B9
		z = (z ^ z>>27) * 0x94D049BB133111EB
		return z ^ z>>31
	}
}
