package heap_test

import (
	"math"
	"testing"

	"quill/api"
	"quill/heap"
)

// may holds whether an object may be, behind three others.
func may(t *testing.T, what string, o api.Object, want bool) {
	t.Helper()
	h := made(t, 99, bare(-1), bare(-1), bare(-1))
	n, e := h.Alloc(o)
	switch {
	case want && (n != 3 || e != api.OK):
		t.Errorf("%s: %d, %d: it may be", what, n, e)
	case !want && (n != 0 || e != api.ErrArg || h.Len() != 3 || h.Used() != 3):
		t.Errorf("%s: %d, %d: it may not be", what, n, e)
	}
}

// classed is an object of a class that may be.
func classed(class int) api.Object {
	o := api.Object{Class: class, Proto: -1}
	switch class {
	case api.ClassArray:
		return array(0, "w")
	case api.ClassString:
		o.Prim = narrow("ab")
	case api.ClassBoolean:
		o.Prim = truth(false)
	case api.ClassNumber:
		o.Prim = number(0)
	}
	return o
}

func classes() []int {
	return []int{api.ClassObject, api.ClassFunction, api.ClassArray, api.ClassString, api.ClassBoolean, api.ClassNumber, api.ClassError, api.ClassMath, api.ClassJSON, api.ClassArguments}
}

func TestMayClass(t *testing.T) {
	for _, class := range classes() {
		may(t, "a class", classed(class), true)
	}
	for _, class := range []int{math.MinInt, -1, 0, 11, math.MaxInt} {
		may(t, "no class", api.Object{Class: class, Proto: -1}, false)
		may(t, "no class", api.Object{Class: class, Proto: -1, Prim: number(1), Props: array(0, "").Props}, false)
	}
}

// What an object of each class has beside its own.
func TestMayParts(t *testing.T) {
	for _, class := range classes() {
		with := func(what string, want bool, turn func(o *api.Object)) {
			t.Helper()
			o := classed(class)
			turn(&o)
			may(t, what, o, want)
		}
		for _, n := range []int{-1, 0, 1, 2} {
			with("a prototype", true, func(o *api.Object) { o.Proto = n })
		}
		for _, n := range []int{math.MinInt, -2, 3, 4, math.MaxInt} {
			with("no prototype", false, func(o *api.Object) { o.Proto = n })
		}
		for _, n := range []int{math.MinInt, -1, 0, 1, math.MaxInt} {
			with("Native", n >= 0, func(o *api.Object) { o.Native = n })
			with("Code", n >= 0, func(o *api.Object) { o.Code = n })
			with("Scope", n >= 0, func(o *api.Object) { o.Scope = n })
		}
		with("Fixed", true, func(o *api.Object) { o.Fixed = true })
		with("bound", true, func(o *api.Object) { o.Bound = goodValues() })
		for _, v := range badValues() {
			with("bound "+named(v), false, func(o *api.Object) { o.Bound = []api.Value{v} })
			with("bound behind others "+named(v), false, func(o *api.Object) { o.Bound = append(goodValues(), v) })
		}
	}
}

func goodValues() []api.Value {
	return []api.Value{undefined(), null(), truth(false), truth(true), number(0), number(minus0()), number(none()), number(math.Inf(-1)), text(""), narrow("a"), object(0), object(math.MaxInt)}
}

func badValues() []api.Value {
	return []api.Value{{Kind: -1}, {Kind: api.KindEmpty}, {Kind: math.MaxInt}, {B: true}, {N: 1}, {N: minus0()}, {S: wide("a")}, {O: 1}, {Kind: api.KindNull, O: 1}, {Kind: api.KindBool, N: 1}, number(other()), {Kind: api.KindNumber, B: true}, text("a"), text("\x00ab"), {Kind: api.KindString, S: wide("a"), N: 1}, object(-1), object(math.MinInt), {Kind: api.KindObject, S: wide("a")}}
}

func TestMayPrim(t *testing.T) {
	for _, class := range classes() {
		kind := map[int]int{api.ClassBoolean: api.KindBool, api.ClassNumber: api.KindNumber, api.ClassString: api.KindString}[class] // else undefined
		for _, v := range goodValues() {
			o := classed(class)
			o.Prim = v
			may(t, "a value inside "+named(v), o, v.Kind == kind)
		}
		for _, v := range badValues() {
			o := classed(class)
			o.Prim = v
			may(t, "a value inside that may not be "+named(v), o, false)
		}
	}
}

func TestMayTable(t *testing.T) {
	for _, class := range classes() {
		with := func(what string, want bool, l ...api.Keyed) {
			t.Helper()
			o := classed(class)
			o.Props = append(o.Props, l...)
			may(t, what, o, want)
		}
		p := plain(number(1), "wec")
		with("keys", true, keyed("", p), keyed("a", p), keyed("b", p), keyed("01", p), keyed("-1", p), keyed("4294967295", p), keyed("\x00", p))
		with("a key twice", false, keyed("a", p), keyed("a", p))
		with("a key twice, apart", false, keyed("a", p), keyed("b", plain(null(), "")), keyed("c", p), keyed("a", plain(null(), "")))
		with("an empty key twice", false, keyed("", p), keyed("", p))
		with("an odd key", false, api.Keyed{Key: "a", P: p})
		with("an odd key behind others", false, keyed("a", p), api.Keyed{Key: wide("a") + "\x00", P: p})
		for _, v := range goodValues() {
			with("a property "+named(v), true, keyed("a", plain(v, "")))
		}
		for _, v := range badValues() {
			with("a property "+named(v), false, keyed("a", plain(v, "")))
			with("a getter "+named(v), false, keyed("a", pair(v, undefined(), "")))
			with("a setter "+named(v), false, keyed("b", p), keyed("a", pair(undefined(), v, "")))
		}
		with("accessors", true, keyed("a", pair(undefined(), undefined(), "")), keyed("b", pair(object(9), undefined(), "e")), keyed("c", pair(undefined(), object(0), "c")), keyed("d", pair(object(5), object(5), "ec")))
		with("a getter that is none", false, keyed("a", pair(null(), undefined(), "")))
		with("a setter that is none", false, keyed("a", pair(undefined(), number(1), "")))
	}
}

// All that a table has are full descriptors that may be.
func TestMayFull(t *testing.T) {
	for bits := range 128 {
		p := api.Prop{Has: bits}
		may(t, "bits "+shown(p), bare(-1, keyed("a", p)), bits == fullData || bits == fullAccessor)
		may(t, "bits of the last one "+shown(p), bare(-1, append(rows(12), keyed("a", p))...), bits == fullData || bits == fullAccessor)
	}
	for _, p := range []api.Prop{{Has: -1}, {Has: fullData, Get: object(1)}, {Has: fullAccessor, Writable: true}, {Has: fullAccessor, Value: null()}} {
		may(t, "parts that it has not "+shown(p), bare(-1, keyed("a", p)), false)
	}
}

// Keys stand once in great tables, too.
func TestMayGreatTable(t *testing.T) {
	for n := range 40 {
		l := rows(n)
		may(t, "many", bare(-1, l...), true)
		for i := range n {
			may(t, "many, and one again", bare(-1, append(rows(n), l[i])...), false)
		}
	}
}

func TestMayArray(t *testing.T) {
	p := plain(null(), "wec")
	bare := func(l ...api.Keyed) api.Object { return api.Object{Class: api.ClassArray, Proto: -1, Props: l} }
	may(t, "no length", bare(), false)
	may(t, "no length", bare(keyed("0", p), keyed("lengt", plain(number(5), "w"))), false)
	for _, marks := range []string{"", "w", "e", "c", "we", "wc", "ec", "wec"} {
		may(t, "a length "+marks, array(0, marks), marks == "" || marks == "w")
		may(t, "a getter of length "+marks, bare(keyed("length", pair(undefined(), undefined(), marks))), false)
	}
	for _, x := range []float64{0, minus0(), 1, 2, 1 << 31, 1<<32 - 2, 1<<32 - 1} {
		may(t, "a length", array(x, "w"), true)
		may(t, "a length", array(x, ""), true)
	}
	for _, x := range []float64{-1, 0.5, -0.5, 1<<32 - 0.5, 1 << 32, 1<<32 + 1, 1 << 33, 1e300, -(1 << 32), none(), math.Inf(1), math.Inf(-1), 5e-324} {
		may(t, "no length", array(x, "w"), false)
	}
	for _, v := range goodValues() {
		may(t, "a length "+named(v), bare(keyed("length", plain(v, ""))), v.Kind == api.KindNumber && v.N == 0)
	}
	may(t, "a length that is a text", bare(keyed("length", plain(narrow("0"), ""))), false)
	may(t, "a length behind others", bare(keyed("a", p), keyed("0", p), keyed("length", plain(number(1), "w"))), true)
	may(t, "a length behind many", bare(append(rows(20), keyed("length", plain(number(20), "w")))...), true)
	may(t, "a length behind too many", bare(append(rows(20), keyed("length", plain(number(19), "w")))...), false)
}

func TestMayArrayIndexes(t *testing.T) {
	p := plain(null(), "wec")
	for _, row := range []struct {
		length float64
		key    string
		ok     bool
	}{
		{0, "0", false}, {minus0(), "0", false}, {1, "0", true}, {1, "1", false}, {2, "1", true}, {10, "9", true}, {10, "10", false}, {9, "10", false}, {100, "20", true},
		{1<<32 - 1, "4294967294", true}, {1<<32 - 2, "4294967294", false}, {1 << 31, "2147483648", false}, {1<<31 + 1, "2147483648", true}, {0, "4294967294", false},
		{0, "4294967295", true}, {0, "00", true}, {0, "-0", true}, {0, "0.5", true}, {0, "1e1", true}, {0, " 1", true}, {0, "-1", true}, {0, "", true}, {0, "a", true}, {0, "42949672940", true},
	} {
		may(t, "an array with "+row.key, array(row.length, "w", keyed(row.key, p)), row.ok)
		may(t, "an array with more, and "+row.key, array(row.length, "", keyed("x", p), keyed(row.key, pair(undefined(), undefined(), ""))), row.ok)
	}
	may(t, "an object with indexes", bare(-1, keyed("length", p), keyed("0", p)), true)
}

func TestMayString(t *testing.T) {
	p := plain(null(), "")
	for _, row := range []struct {
		text, key string
		ok        bool
	}{
		{"", "length", false}, {"ab", "length", false}, {"ab", "0", false}, {"ab", "1", false}, {"ab", "2", true}, {"", "0", true}, {"a", "0", false}, {"a", "1", true}, {"a", "4294967294", true},
		{"ab", "00", true}, {"ab", "01", true}, {"ab", "-0", true}, {"ab", "", true}, {"ab", "Length", true}, {"0123456789a", "10", false}, {"0123456789", "10", true}, {"0123456789a", "9", false},
	} {
		may(t, row.text+" with "+row.key, box(row.text, keyed(row.key, p)), row.ok)
		may(t, row.text+" with more, and "+row.key, box(row.text, keyed("x", p), keyed(row.key, p), keyed("y", p)), row.ok)
	}
}

// What a table's values are counts not: objects need not be there.
func TestMayObjectsAhead(t *testing.T) {
	h, e := heap.Load([]api.Object{bare(-1, keyed("a", plain(object(0), "")), keyed("b", plain(object(5), "")), keyed("c", pair(object(1), object(9), "")))}, 4)
	if e != api.OK || h.Len() != 1 {
		t.Errorf("Load: %d", e)
	}
}
