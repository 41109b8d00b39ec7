package value_test

import (
	"math"
	"testing"

	"quill/api"
	"quill/numtext"
	"quill/ustr"
	"quill/value"
)

func TestVa2ToBoolean(t *testing.T) {
	for _, c := range cards() {
		if b := value.ToBoolean(c.v); b != c.truth {
			t.Errorf("the truth of %s: %v", shown(c.v), b)
		}
	}
}

func TestVa2ToNumber(t *testing.T) {
	for _, c := range cards() {
		x, errno := value.ToNumber(c.v)
		if isObject(c.v) {
			refused(t, "ToNumber", errno, same(x, 0), c.v)
			continue
		}
		if !same(x, c.number) || errno != api.OK {
			t.Errorf("the number of %s: %v (%x), error %d, not %v", shown(c.v), x, math.Float64bits(x), errno, c.number)
		}
	}
}

// A NaN that is told has the one's bits, also where what was handed in has others.
func TestVa2NaNs(t *testing.T) {
	for _, x := range nans() {
		if y, errno := value.ToNumber(number(x)); !same(y, none()) || errno != api.OK {
			t.Errorf("the number of the NaN %x: %x, error %d", math.Float64bits(x), math.Float64bits(y), errno)
		}
		if v, errno := value.Add(number(x), number(1)); !alike(v, number(none())) || errno != api.OK {
			t.Errorf("the NaN %x and 1: %x, error %d", math.Float64bits(x), math.Float64bits(v.N), errno)
		}
	}
}

func TestVa2ToString(t *testing.T) {
	for _, c := range cards() {
		s, errno := value.ToString(c.v)
		if isObject(c.v) {
			refused(t, "ToString", errno, s == "", c.v)
			continue
		}
		if s != c.text || errno != api.OK {
			t.Errorf("the text of %s: %q, error %d", shown(c.v), ustr.Encode(s), errno)
		}
	}
}

// Of numbers and texts the lower layers are asked.
func TestVa2Drawn(t *testing.T) {
	draw := draws(2)
	numbers := 0
	for range 20000 {
		x, s := drawnFloat(draw), drawnText(draw)
		if y, errno := value.ToNumber(number(x)); !same(y, x) || errno != api.OK {
			t.Errorf("the number of %v: %v, error %d", x, y, errno)
		}
		if a, errno := value.ToString(number(x)); a != numtext.Text(x) || errno != api.OK {
			t.Errorf("the text of %v: %q, error %d", x, ustr.Encode(a), errno)
		}
		y, errno := value.ToNumber(text(s))
		if !same(y, numtext.Number(s)) || errno != api.OK {
			t.Errorf("the number of %q: %v, error %d", ustr.Encode(s), y, errno)
		}
		if !math.IsNaN(y) {
			numbers++
		}
		if a, errno := value.ToString(text(s)); a != s || errno != api.OK {
			t.Errorf("the text of %q: %q, error %d", ustr.Encode(s), ustr.Encode(a), errno)
		}
		if value.ToBoolean(text(s)) != (len(s) > 0) || value.ToBoolean(number(x)) != (math.Abs(x) > 0) {
			t.Errorf("the truth of %q or %v", ustr.Encode(s), x)
		}
	}
	if numbers < 5000 || numbers > 15000 {
		t.Errorf("of 20000 texts %d are numbers", numbers)
	}
}

// No units but those of a text count: a text of noughts, or of white alone, is true.
func TestVa2Truths(t *testing.T) {
	for _, v := range []api.Value{narrow("0"), narrow("false"), narrow(" "), units(0), units(0xD800), object(0), number(-5e-324), number(math.Inf(-1))} {
		if !value.ToBoolean(v) {
			t.Errorf("%+v is false", v)
		}
	}
	for _, v := range []api.Value{undefined(), null(), truth(false), number(0), number(minus0()), number(none()), text("")} {
		if value.ToBoolean(v) {
			t.Errorf("%+v is true", v)
		}
	}
}
