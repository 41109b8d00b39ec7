package value_test

import (
	"math"
	"testing"

	"quill/api"
	"quill/value"
)

func TestVa5Itself(t *testing.T) {
	for _, v := range many(5000) {
		if !value.Same(v, v) {
			t.Errorf("%s is not the same as itself", shown(v))
		}
		if value.Strict(v, v) == isNaN(v) {
			t.Errorf("%s === itself: %v", shown(v), value.Strict(v, v))
		}
	}
}

func TestVa5BothWays(t *testing.T) {
	l := many(400)
	for _, x := range l {
		for _, y := range l {
			strict := value.Strict(x, y)
			if value.Strict(y, x) != strict || value.Same(y, x) != value.Same(x, y) {
				t.Errorf("Strict or Same of %s and %s goes one way", shown(x), shown(y))
			}
			loose, errno := value.Loose(x, y)
			if back, other := value.Loose(y, x); back != loose || other != errno {
				t.Errorf("%s == %s: %v, error %d; back: %v, error %d", shown(x), shown(y), loose, errno, back, other)
			}
			if strict && (!loose || errno != api.OK) {
				t.Errorf("%s === %s, but == tells %v, error %d", shown(x), shown(y), loose, errno)
			}
			// What is the same is strictly so, but NaNs; the noughts alone the other way round.
			if nans, noughts := isNaN(x) && isNaN(y), isNumber(x) && isNumber(y) && x.N == 0 && y.N == 0; !nans && !noughts && value.Same(x, y) != strict {
				t.Errorf("Same and Strict of %s and %s part", shown(x), shown(y))
			}
			n, _ := value.Less(x, y)
			if m, _ := value.Less(y, x); n == 1 && m != 0 || (n == -1) != (m == -1) {
				t.Errorf("%s and %s: each is less", shown(x), shown(y))
			}
		}
	}
}

// ToString of a number is told back by ToNumber.
func TestVa5Back(t *testing.T) {
	draw := draws(5)
	var l []float64
	for _, c := range numberCards() {
		l = append(l, c.v.N)
	}
	for range 20000 {
		l = append(l, drawnFloat(draw), math.Float64frombits(draw()))
	}
	for _, x := range l {
		want := value.Number(x)
		s, errno := value.ToString(want)
		if errno != api.OK {
			t.Errorf("the text of %v: error %d", x, errno)
		}
		if x == 0 {
			want = number(0)
		}
		if y, errno := value.ToNumber(value.String(s)); !alike(number(y), want) || errno != api.OK {
			t.Errorf("of %v comes %v, error %d", x, y, errno)
		}
	}
}

// Sums of what are no objects are told as their numbers, or texts one behind the other.
func TestVa5Sums(t *testing.T) {
	draw := draws(7)
	for range 20000 {
		x, y := drawn(draw), drawn(draw)
		v, errno := value.Add(x, y)
		switch {
		case isObject(x) || isObject(y):
			refused(t, "Add", errno, alike(v, api.Value{}), x, y)
		case isText(x) || isText(y):
			a, _ := value.ToString(x)
			b, _ := value.ToString(y)
			if !alike(v, text(a+b)) || errno != api.OK {
				t.Errorf("%s + %s: %s", shown(x), shown(y), shown(v))
			}
		default:
			a, _ := value.ToNumber(x)
			b, _ := value.ToNumber(y)
			if !alike(v, value.Number(a+b)) || errno != api.OK {
				t.Errorf("%s + %s: %s", shown(x), shown(y), shown(v))
			}
		}
	}
}
