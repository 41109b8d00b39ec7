package machine_test

import (
	"math"
	"testing"

	"quill/api"
	"quill/machine"
	"quill/ustr"
)

func TestMa2Register(t *testing.T) {
	m := roomy(t)
	for i := range 5 {
		n := m.Register(func(*machine.Machine, api.Entry) api.Done { return normal(number(float64(i))) })
		if n != i+1 {
			t.Errorf("Register: %d, not %d", n, i+1)
		}
	}
	for i := range 5 {
		o := alloc(t, m, nativeOf(i+1))
		ends(t, "Call", m.Call(object(o), undefined(), nil), normal(number(float64(i))))
	}
}

func TestMa2Known(t *testing.T) {
	m := roomy(t)
	for k := range api.Ints {
		if n := m.Known(k); n != -1 {
			t.Errorf("Known(%d): %d in the beginning", k, n)
		}
	}
	for k := range api.Ints {
		m.Know(k, 100+k)
	}
	for _, k := range []int{math.MinInt, -1, api.Ints, api.Ints + 1, math.MaxInt} {
		m.Know(k, 7)
		if n := m.Known(k); n != -1 {
			t.Errorf("Known(%d): %d", k, n)
		}
	}
	for k := range api.Ints {
		if n := m.Known(k); n != 100+k {
			t.Errorf("Known(%d): %d", k, n)
		}
	}
	m.Know(api.IntThrower, 0)
	m.Know(api.IntGlobal, -1)
	if m.Known(api.IntThrower) != 0 || m.Known(api.IntGlobal) != -1 || m.Known(api.IntURIErrorProto) != 100+api.IntURIErrorProto {
		t.Error("what is known anew")
	}
}

func TestMa2Fail(t *testing.T) {
	m := roomy(t)
	fails(t, m, "not known", m.Fail(api.IntErrorProto), -1)
	for range 3 {
		alloc(t, m, bare(-1))
	}
	m.Know(api.IntTypeErrorProto, 2)
	m.Know(api.IntObjectProto, 3)
	fails(t, m, "TypeError", m.Fail(api.IntTypeErrorProto), 2)
	fails(t, m, "of another known one", m.Fail(api.IntObjectProto), 3)
	fails(t, m, "not known still", m.Fail(api.IntRangeErrorProto), -1)
	for _, k := range []int{math.MinInt, -1, api.Ints, math.MaxInt} {
		fails(t, m, "none of these", m.Fail(k), -1)
	}
	if m.Left() != wideLimits().Fuel {
		t.Errorf("%d left", m.Left())
	}
}

func TestMa2FailLimit(t *testing.T) {
	m := made(t, api.Limits{Cells: 1})
	fails(t, m, "the last cell", m.Fail(api.IntErrorProto), -1)
	stopped(t, m, "no cell", m.Fail(api.IntErrorProto))
	for _, o := range []int{5, math.MaxInt, -2, math.MinInt} {
		m = roomy(t)
		m.Know(api.IntErrorProto, o)
		stopped(t, m, "a prototype that is not there", m.Fail(api.IntErrorProto))
		if m.Heap().Len() != 0 {
			t.Errorf("%d: an object was made", o)
		}
	}
}

func TestMa2Alloc(t *testing.T) {
	m := made(t, api.Limits{Cells: 5})
	l := []api.Object{bare(-1), fixed(bare(0, keyed("a", plain(null(), "w")))), nativeOf(7)}
	for i, o := range l {
		if n := alloc(t, m, o); n != i {
			t.Errorf("Alloc: %d, not %d", n, i)
		}
		if x, e := m.Heap().Object(i); e != api.OK || !sameObject(x, o) {
			t.Errorf("object %d: %+v, not %+v", i, x, o)
		}
	}
	n, d := m.Alloc(bare(-1, keyed("a", plain(null(), ""))))
	stopped(t, m, "one cell for two", d)
	if n != 0 || m.Heap().Len() != 3 || m.Heap().Used() != 4 {
		t.Errorf("Alloc: %d, %d objects, %d used", n, m.Heap().Len(), m.Heap().Used())
	}
}

func TestMa2AllocMayNot(t *testing.T) {
	for _, o := range []api.Object{{}, bare(0), bare(-2), {Class: api.ClassArray, Proto: -1}, {Class: api.ClassNumber, Proto: -1}, {Class: api.ClassObject, Proto: -1, Native: -1}} {
		m := roomy(t)
		n, d := m.Alloc(o)
		stopped(t, m, "an object that may not be", d)
		if n != 0 || m.Heap().Len() != 0 {
			t.Errorf("%+v: %d", o, n)
		}
	}
}

func TestMa3Get(t *testing.T) {
	m := roomy(t)
	var entries []api.Entry
	get := native(t, m, &entries, normal(narrow("got")))
	bad := native(t, m, &entries, thrown(number(9)))
	o := alloc(t, m, bare(-1, keyed("a", plain(number(1), "")), keyed("g", pair(object(get), undefined(), "")), keyed("u", pair(undefined(), object(get), "")), keyed("b", pair(object(bad), undefined(), "")), keyed("o", pair(object(0), undefined(), "")), keyed("n", pair(object(99), undefined(), ""))))
	p := alloc(t, m, bare(o, keyed("a", plain(number(2), ""))))
	text := alloc(t, m, api.Object{Class: api.ClassString, Proto: p, Prim: narrow("xy")})
	for _, c := range []struct {
		o    int
		key  string
		want api.Value
	}{
		{o, "a", number(1)}, {p, "a", number(2)}, {text, "a", number(2)}, {o, "u", undefined()}, {p, "u", undefined()}, {o, "none", undefined()}, {text, "none", undefined()},
		{text, "1", narrow("y")}, {text, "2", undefined()}, {text, "length", number(2)}, {o, "", undefined()},
		{-1, "a", undefined()}, {99, "a", undefined()}, {math.MaxInt, "g", undefined()}, {math.MinInt, "g", undefined()},
	} {
		ends(t, "Get of "+c.key, m.Get(c.o, wide(c.key), null()), normal(c.want))
	}
	ends(t, "Get of an odd key", m.Get(o, "a", null()), normal(undefined()))
	entered(t, &entries)
	if m.Left() != wideLimits().Fuel {
		t.Errorf("%d left", m.Left())
	}
	for _, this := range []api.Value{undefined(), number(7), object(text)} {
		ends(t, "Get of a getter", m.Get(text, wide("g"), this), normal(narrow("got")))
		entered(t, &entries, api.Entry{Func: get, This: this})
		ends(t, "Get of one that throws", m.Get(p, wide("b"), this), thrown(number(9)))
		entered(t, &entries, api.Entry{Func: bad, This: this})
	}
	if m.Left() != wideLimits().Fuel-6 {
		t.Errorf("%d left", m.Left())
	}
	alloc(t, m, bare(-1))
	entries = nil
	fails(t, m, "a getter that is not there", m.Get(o, wide("n"), undefined()), -1)
	entered(t, &entries)
}

// A getter that is an object, but no function.
func TestMa3GetNoFunction(t *testing.T) {
	m := roomy(t)
	proto := alloc(t, m, bare(-1))
	m.Know(api.IntTypeErrorProto, proto)
	o := alloc(t, m, bare(-1, keyed("g", pair(object(proto), object(proto), ""))))
	fails(t, m, "Get", m.Get(o, wide("g"), undefined()), proto)
	fails(t, m, "Put", m.Put(o, wide("g"), null(), false), proto)
}

func TestMa3GetLimit(t *testing.T) {
	m := made(t, api.Limits{Fuel: 1, Cells: 10, Depth: 1})
	var entries []api.Entry
	get := native(t, m, &entries, normal(null()))
	o := alloc(t, m, bare(-1, keyed("g", pair(object(get), object(get), "")), keyed("a", plain(null(), "w"))))
	ends(t, "Get", m.Get(o, wide("g"), undefined()), normal(null()))
	ends(t, "Get of data", m.Get(o, wide("a"), undefined()), normal(null()))
	ends(t, "Put of data", m.Put(o, wide("a"), number(2), true), normal(undefined()))
	stopped(t, m, "Get", m.Get(o, wide("g"), undefined()))
	entered(t, &entries, api.Entry{Func: get})
}

// puts holds Put, which calls nothing, with throw and without; of a machine each.
func puts(t *testing.T, o api.Object, key string, v api.Value, want *api.Prop, errs int) {
	t.Helper()
	for _, throw := range []bool{false, true} {
		m := roomy(t)
		up := alloc(t, m, bare(-1, keyed("up", plain(number(1), "we")), keyed("still", plain(number(1), "e")), keyed("got", pair(object(0), undefined(), ""))))
		m.Know(api.IntTypeErrorProto, up)
		m.Know(api.IntRangeErrorProto, alloc(t, m, bare(-1)))
		n := alloc(t, m, o)
		before, _ := m.Heap().Own(n, wide(key))
		d := m.Put(n, wide(key), v, throw)
		switch {
		case errs == api.IntRangeErrorProto, errs == api.IntTypeErrorProto && throw:
			fails(t, m, "Put of "+key, d, m.Known(errs))
		default:
			ends(t, "Put of "+key, d, normal(undefined()))
		}
		if want == nil {
			want = &before
		}
		has(t, m, n, key, *want)
		if m.Left() != wideLimits().Fuel {
			t.Errorf("%d left", m.Left())
		}
	}
}

func TestMa3Put(t *testing.T) {
	const no, typeError, rangeError = -1, api.IntTypeErrorProto, api.IntRangeErrorProto
	now := func(v api.Value, marks string) *api.Prop {
		p := plain(v, marks)
		return &p
	}
	five := number(5)
	puts(t, bare(-1), "a", five, now(five, "wec"), no)
	puts(t, bare(0), "a", five, now(five, "wec"), no)
	for _, marks := range []string{"w", "we", "wc", "wec"} {
		puts(t, bare(0, keyed("a", plain(null(), marks))), "a", five, now(five, marks), no)
		puts(t, fixed(bare(0, keyed("a", plain(null(), marks)))), "a", five, now(five, marks), no)
	}
	for _, marks := range []string{"", "e", "c", "ec"} {
		puts(t, bare(0, keyed("a", plain(null(), marks))), "a", five, nil, typeError)
	}
	puts(t, bare(0, keyed("a", pair(object(0), undefined(), "ec"))), "a", five, nil, typeError)
	puts(t, bare(0), "up", five, now(five, "wec"), no)
	puts(t, bare(0), "still", five, nil, typeError)
	puts(t, bare(0), "got", five, nil, typeError)
	puts(t, fixed(bare(-1)), "a", five, nil, typeError)
	puts(t, fixed(bare(0)), "up", five, nil, typeError)
	puts(t, array(2, keyed("0", plain(null(), "wec"))), "0", five, now(five, "wec"), no)
	puts(t, array(2), "1", five, now(five, "wec"), no)
	puts(t, array(2), "length", five, now(five, "w"), no)
	puts(t, array(2), "length", narrow("3"), now(number(3), "w"), no)
	puts(t, array(2), "length", number(1.5), nil, rangeError)
	puts(t, array(2), "length", object(0), nil, rangeError)
	puts(t, array(2, keyed("1", plain(null(), "we"))), "length", number(0), nil, typeError)
	text := api.Object{Class: api.ClassString, Proto: 0, Prim: narrow("xy")}
	puts(t, text, "0", narrow("x"), nil, typeError)
	puts(t, text, "length", number(2), nil, typeError)
	puts(t, text, "2", five, now(five, "wec"), no)
	puts(t, bare(0), "a", api.Value{Kind: 99}, nil, typeError)
}

// An array's length grows with its indexes.
func TestMa3PutArray(t *testing.T) {
	m := roomy(t)
	o := alloc(t, m, array(2))
	ends(t, "Put", m.Put(o, wide("7"), null(), true), normal(undefined()))
	has(t, m, o, "length", plain(number(8), "w"))
}

func TestMa3PutSetter(t *testing.T) {
	m := roomy(t)
	var entries []api.Entry
	set := native(t, m, &entries, normal(narrow("told")))
	bad := native(t, m, &entries, thrown(null()))
	o := alloc(t, m, bare(-1, keyed("s", pair(undefined(), object(set), "")), keyed("b", pair(object(set), object(bad), "ec"))))
	p := alloc(t, m, fixed(bare(o)))
	for _, n := range []int{o, p} {
		for _, throw := range []bool{false, true} {
			ends(t, "Put by a setter", m.Put(n, wide("s"), number(4), throw), normal(undefined()))
			entered(t, &entries, api.Entry{Func: set, This: object(n), Args: []api.Value{number(4)}})
			ends(t, "Put by one that throws", m.Put(n, wide("b"), undefined(), throw), thrown(null()))
			entered(t, &entries, api.Entry{Func: bad, This: object(n), Args: []api.Value{undefined()}})
		}
	}
	if m.Left() != wideLimits().Fuel-8 || len(m.Heap().Names(p)) != 0 {
		t.Errorf("%d left, %q", m.Left(), m.Heap().Names(p))
	}
	has(t, m, o, "s", pair(undefined(), object(set), ""))
}

// Without a cell a limit is met, whether or not it throws.
func TestMa3Cells(t *testing.T) {
	for _, throw := range []bool{false, true} {
		for _, put := range []bool{false, true} {
			m := made(t, api.Limits{Fuel: 9, Cells: 2})
			o := alloc(t, m, bare(-1, keyed("a", plain(null(), "wec"))))
			ends(t, "Put of one that is there", m.Put(o, wide("a"), number(5), throw), normal(undefined()))
			ends(t, "Define of one that is there", m.Define(o, wide("a"), only(number(6)), throw), normal(truth(true)))
			if put {
				stopped(t, m, "Put", m.Put(o, wide("b"), null(), throw))
			} else {
				stopped(t, m, "Define", m.Define(o, wide("b"), only(null()), throw))
			}
		}
	}
	m := made(t, api.Limits{Cells: 1})
	o := alloc(t, m, fixed(bare(-1)))
	ends(t, "Put without throw", m.Put(o, wide("a"), null(), false), normal(undefined()))
	ends(t, "Define without throw", m.Define(o, wide("a"), only(null()), false), normal(truth(false)))
	stopped(t, m, "no room for the error", m.Put(o, wide("a"), null(), true))
}

func TestMa3Define(t *testing.T) {
	const no, typeError, rangeError = -1, api.IntTypeErrorProto, api.IntRangeErrorProto
	for _, c := range []struct {
		what string
		o    api.Object
		key  string
		p    api.Prop
		errs int
	}{
		{"a new one", bare(-1), wide("a"), only(null()), no},
		{"an accessor", bare(-1), wide("a"), api.Prop{Has: api.HasGet, Get: object(0)}, no},
		{"an accessor in data's place", bare(-1, keyed("a", plain(null(), "c"))), wide("a"), api.Prop{Has: api.HasSet, Set: object(0)}, no},
		{"nothing", bare(-1, keyed("a", plain(null(), ""))), wide("a"), api.Prop{}, no},
		{"the same", bare(-1, keyed("a", plain(null(), ""))), wide("a"), only(null()), no},
		{"another value", bare(-1, keyed("a", plain(null(), ""))), wide("a"), only(number(1)), typeError},
		{"not extensible", fixed(bare(-1)), wide("a"), only(null()), typeError},
		{"a length", array(3), wide("length"), only(number(1)), no},
		{"the least one that is none", array(3), wide("length"), only(number(-1)), rangeError},
		{"a length that is none", array(3), wide("length"), only(narrow("x")), rangeError},
		{"a length that can't be", array(3, keyed("2", plain(null(), ""))), wide("length"), only(number(1)), typeError},
		{"length of what is no array", bare(-1), wide("length"), only(number(-1)), no},
		{"an odd key", bare(-1), "a", only(null()), typeError},
		{"a descriptor that may not be", bare(-1), wide("a"), api.Prop{Has: api.HasValue | api.HasGet}, typeError},
		{"bits that are none", bare(-1), wide("a"), api.Prop{Has: 64}, typeError},
	} {
		for _, throw := range []bool{false, true} {
			m := roomy(t)
			m.Know(api.IntTypeErrorProto, alloc(t, m, bare(-1)))
			m.Know(api.IntRangeErrorProto, alloc(t, m, bare(-1)))
			o := alloc(t, m, c.o)
			d := m.Define(o, c.key, c.p, throw)
			switch {
			case c.errs == rangeError, c.errs == typeError && throw:
				fails(t, m, c.what, d, m.Known(c.errs))
			default:
				ends(t, c.what, d, normal(truth(c.errs == no)))
			}
			if m.Left() != wideLimits().Fuel {
				t.Errorf("%s: %d left", c.what, m.Left())
			}
		}
	}
}

// What Define defines is what was said.
func TestMa3Defines(t *testing.T) {
	m := roomy(t)
	o := alloc(t, m, bare(-1))
	ends(t, "Define", m.Define(o, wide("a"), api.Prop{Has: api.HasValue | api.HasEnumerable, Value: null(), Enumerable: true}, true), normal(truth(true)))
	has(t, m, o, "a", plain(null(), "e"))
	ends(t, "Define", m.Define(o, wide("g"), api.Prop{Has: api.HasGet | api.HasConfigurable, Get: object(o), Configurable: true}, false), normal(truth(true)))
	has(t, m, o, "g", pair(object(o), undefined(), "c"))
}

func TestMa3Delete(t *testing.T) {
	for _, throw := range []bool{false, true} {
		m := roomy(t)
		proto := alloc(t, m, bare(-1, keyed("up", plain(null(), ""))))
		m.Know(api.IntTypeErrorProto, proto)
		o := alloc(t, m, bare(proto, keyed("a", plain(null(), "c")), keyed("b", plain(null(), "we")), keyed("g", pair(object(0), undefined(), "c"))))
		for _, key := range []string{"a", "a", "up", "none", "g"} {
			ends(t, "Delete of "+key, m.Delete(o, wide(key), throw), normal(truth(true)))
		}
		ends(t, "Delete of an odd key", m.Delete(o, "b", throw), normal(truth(true)))
		d := m.Delete(o, wide("b"), throw)
		if throw {
			fails(t, m, "Delete of b", d, proto)
		} else {
			ends(t, "Delete of b", d, normal(truth(false)))
		}
		if l := m.Heap().Names(o); len(l) != 1 || l[0] != wide("b") || m.Left() != wideLimits().Fuel {
			t.Errorf("%q are left", l)
		}
		text := alloc(t, m, api.Object{Class: api.ClassString, Proto: -1, Prim: narrow("xy")})
		ends(t, "Delete of a unit", m.Delete(text, wide("1"), false), normal(truth(false)))
	}
}

// Of what is no object nothing is done, even if that throws.
func TestMa3NoObject(t *testing.T) {
	m := roomy(t)
	alloc(t, m, bare(-1))
	for _, o := range []int{-1, 1, 99, math.MinInt, math.MaxInt} {
		for _, throw := range []bool{false, true} {
			ends(t, "Get", m.Get(o, wide("a"), null()), normal(undefined()))
			ends(t, "Put", m.Put(o, wide("a"), null(), throw), normal(undefined()))
			ends(t, "Define", m.Define(o, wide("a"), only(null()), throw), normal(truth(false)))
			ends(t, "Delete", m.Delete(o, wide("a"), throw), normal(truth(false)))
		}
	}
	if m.Heap().Len() != 1 || m.Heap().Used() != 1 || m.Over() {
		t.Errorf("%d objects, %d used", m.Heap().Len(), m.Heap().Used())
	}
}

// A Put that a setter answers by a limit.
func TestMa3PutLimit(t *testing.T) {
	m := roomy(t)
	set := alloc(t, m, nativeOf(m.Register(func(m *machine.Machine, _ api.Entry) api.Done { return m.Stop() })))
	o := alloc(t, m, bare(-1, keyed("s", pair(undefined(), object(set), ""))))
	stopped(t, m, "Put", m.Put(o, wide("s"), null(), false))
}

// Keys are texts of code units.
func TestMa3Keys(t *testing.T) {
	m := roomy(t)
	o := alloc(t, m, bare(-1))
	lone := ustr.Make([]uint16{0xD83D})
	for i, key := range []string{"", wide("é"), lone, lone + wide("x"), wide("01")} {
		ends(t, "Put", m.Put(o, key, number(float64(i)), true), normal(undefined()))
		ends(t, "Get", m.Get(o, key, null()), normal(number(float64(i))))
	}
	if l := m.Heap().Names(o); len(l) != 5 {
		t.Errorf("%q", l)
	}
}
