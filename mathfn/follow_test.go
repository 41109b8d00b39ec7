package mathfn_test

import (
	"math"
	"math/big"
	"slices"
	"testing"

	"quill/mathfn"
)

// parted tells whether the half of a quarter is rounded so that x and -x lie in
// quarters that do not match.
func parted(x float64) bool {
	if math.Abs(x) > 1<<20 {
		x = reckoned("%", x, twoPi)
	}
	quarter := func(x float64) float64 { return math.Floor(plus(times(x, invPi2), 0.5)) }
	return quarter(x) != -quarter(-x)
}

func TestMf7Signs(t *testing.T) {
	halves := 0
	for _, x := range anyFloats(3000) {
		if math.IsNaN(x) {
			continue
		}
		turns := []function{atan(), asin()}
		if math.IsInf(x, 0) || !parted(x) {
			turns = append(turns, sin(), tan())
			cos().one(t, -x, mathfn.Cos(x))
		} else {
			halves++
		}
		for _, f := range turns {
			if want := -f.call(x); math.IsNaN(want) {
				f.one(t, -x, none)
			} else {
				f.one(t, -x, want)
			}
		}
	}
	if halves == 0 {
		t.Error("no half of a quarter was asked")
	}
}

// near tells a fault, if what is told lies further from what the library tells (a
// bit or two from the truth) than by the bound; amount is what the bound is a part of.
func near(t *testing.T, f function, x, want, amount float64) {
	t.Helper()
	if got := f.call(x); !(math.Abs(got-want) <= 1e-9*math.Abs(amount)) {
		t.Errorf("%s(%v): %v, not near %v", f.name, x, got, want)
	}
}

func TestMf7NearAngles(t *testing.T) {
	l := slices.Concat(between(20000, 1000), between(5000, 10), between(5000, 1))
	for i := -1000.0; i <= 1000; i += 0.5 {
		l = append(l, i, i*pi4/2)
	}
	for _, x := range slices.Concat(l, anyFloats(1000)) {
		if math.Abs(x) <= 1000 {
			near(t, sin(), x, math.Sin(x), 1)
			near(t, cos(), x, math.Cos(x), 1)
			near(t, atan(), x, math.Atan(x), 1)
		}
	}
}

func TestMf7NearPowers(t *testing.T) {
	for _, x := range slices.Concat(between(20000, 690.7), between(5000, 1), spread(1000)) {
		if math.Abs(x) <= 690.7 {
			near(t, exp(), x, math.Exp(x), math.Exp(x))
		}
	}
	for _, x := range slices.Concat(spread(20000), between(5000, 1), between(5000, 1e6)) {
		if x = math.Abs(x); x >= 1e-300 && x <= 1e300 {
			near(t, log(), x, math.Log(x), 1)
		}
	}
}

// Pow of whole numbers is exact, wherever a float is the power.
func TestMf7PowExact(t *testing.T) {
	asked := 0
	for a := int64(-1000); a <= 1000; a++ {
		for n := int64(0); n <= 1023; n++ {
			power := new(big.Int).Exp(big.NewInt(a), big.NewInt(n), nil)
			want, exact := new(big.Rat).SetInt(power).Float64()
			if !exact && n > 60 {
				break
			}
			if exact && (a != 0 || n > 0) {
				pow().one(t, float64(a), float64(n), want)
				asked++
			}
		}
	}
	if asked < 10000 {
		t.Errorf("%d powers", asked)
	}
	pow().rows(t, []row2{{94906265, 2, 9007199136250225}, {-208063, 3, -9007091372906047}, {3, 33, 5559060566555523}, {7, 18, 1628413597910449}, {2, 1023, math.Ldexp(1, 1023)}, {-2, 1023, -math.Ldexp(1, 1023)}, {9007199254740991, 1, 9007199254740991}})
}
