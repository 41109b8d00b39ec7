package value_test

import (
	"math"
	"testing"

	"quill/api"
	"quill/ustr"
	"quill/value"
)

func TestVa1Check(t *testing.T) {
	for _, row := range []struct {
		v    api.Value
		want api.Errno
	}{
		{undefined(), api.OK}, {null(), api.OK}, {truth(false), api.OK}, {truth(true), api.OK}, {number(0), api.OK}, {number(minus0()), api.OK}, {number(math.Inf(-1)), api.OK}, {number(none()), api.OK}, {text(""), api.OK}, {narrow("a"), api.OK}, {object(0), api.OK}, {object(math.MaxInt), api.OK},
		{empty(), api.ErrArg}, {api.Value{Kind: -1}, api.ErrArg}, {api.Value{Kind: 7}, api.ErrArg},
		{object(-1), api.ErrArg}, {text("a"), api.ErrArg}, {text("\x00a\x00"), api.ErrArg}, {number(math.Float64frombits(0x7FF8000000000001)), api.ErrArg}, {number(math.Float64frombits(0xFFF8000000000000)), api.ErrArg},
		{api.Value{B: true}, api.ErrArg}, {api.Value{N: 1}, api.ErrArg}, {api.Value{N: minus0()}, api.ErrArg}, {api.Value{N: none()}, api.ErrArg}, {api.Value{S: "\x00a"}, api.ErrArg}, {api.Value{O: 1}, api.ErrArg},
		{api.Value{Kind: api.KindNull, B: true}, api.ErrArg}, {api.Value{Kind: api.KindBool, N: 1}, api.ErrArg}, {api.Value{Kind: api.KindBool, B: true, N: minus0()}, api.ErrArg}, {api.Value{Kind: api.KindNumber, N: 1, O: 1}, api.ErrArg}, {api.Value{Kind: api.KindString, S: "\x00a", N: none()}, api.ErrArg}, {api.Value{Kind: api.KindObject, O: 1, S: "\x00a"}, api.ErrArg},
	} {
		if errno := value.Check(row.v); errno != row.want {
			t.Errorf("Check(%+v): %d, not %d", row.v, errno, row.want)
		}
	}
}

// Values with parts of all sorts, held against the chapter's words.
func TestVa1CheckAll(t *testing.T) {
	may := 0
	for _, v := range combined() {
		want := api.ErrArg
		if mayBe(v) {
			want = api.OK
			may++
		}
		if errno := value.Check(v); errno != want {
			t.Errorf("Check(%+v): %d, not %d", v, errno, want)
		}
	}
	if may != 2+2+7+3+3 { // of undefined and null, truths, numbers, texts, objects
		t.Errorf("%d may be", may)
	}
	for _, v := range many(2000) {
		if errno := value.Check(v); errno != api.OK {
			t.Errorf("Check(%+v): %d", v, errno)
		}
	}
}

func TestVa1Makers(t *testing.T) {
	for _, row := range []struct{ v, want api.Value }{
		{value.Bool(true), truth(true)}, {value.Bool(false), truth(false)},
		{value.Number(0), number(0)}, {value.Number(minus0()), number(minus0())}, {value.Number(-1.5), number(-1.5)}, {value.Number(math.Inf(1)), number(math.Inf(1))}, {value.Number(math.Inf(-1)), number(math.Inf(-1))}, {value.Number(5e-324), number(5e-324)},
		{value.String(""), text("")}, {value.String("\x00a"), narrow("a")}, {value.String("\xd8\x00"), units(0xD800)}, {value.String("\x00\x00"), units(0)},
		{value.String("\x00"), text("")}, {value.String("\x00a\x00"), narrow("a")}, {value.String("\x00a\x00bc"), narrow("ab")},
		{value.Object(0), object(0)}, {value.Object(1), object(1)}, {value.Object(math.MaxInt), object(math.MaxInt)}, {value.Object(-1), object(0)}, {value.Object(math.MinInt), object(0)},
	} {
		if !alike(row.v, row.want) {
			t.Errorf("%+v, not %+v", row.v, row.want)
		}
		if errno := value.Check(row.v); errno != api.OK {
			t.Errorf("Check(%+v): %d", row.v, errno)
		}
	}
	for _, x := range nans() {
		if v := value.Number(x); !alike(v, number(none())) {
			t.Errorf("Number of the NaN %x: %+v, %x", math.Float64bits(x), v, math.Float64bits(v.N))
		}
	}
}

func TestVa1TypeOf(t *testing.T) {
	for _, c := range cards() {
		if s := value.TypeOf(c.v, false); s != wide(c.typeOf) {
			t.Errorf("typeof %s: %q, not %s", shown(c.v), ustr.Encode(s), c.typeOf)
		}
		called := c.typeOf
		if isObject(c.v) {
			called = "function"
		}
		if s := value.TypeOf(c.v, true); s != wide(called) {
			t.Errorf("typeof %s, called: %q, not %s", shown(c.v), ustr.Encode(s), called)
		}
	}
}
