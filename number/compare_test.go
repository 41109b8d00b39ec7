package number_test

import (
	"math"
	"math/big"
	"slices"
	"testing"

	"quill/number"
)

// numbers are floats of all kinds but NaNs, in their order; the noughts are side
// by side.
func numbers() []float64 {
	l := slices.Concat(edges(), drawn(20), []float64{math.Inf(1), math.Inf(-1)})
	slices.Sort(l)
	return l
}

func TestNu3Rows(t *testing.T) {
	for _, row := range []struct {
		x, y        float64
		less        int
		equal, same bool
	}{
		{1, 2, 1, false, false}, {2, 1, 0, false, false}, {1, 1, 0, true, true}, {-1, 1, 1, false, false}, {-2, -1, 1, false, false}, {-1, -2, 0, false, false},
		{0, minus0(), 0, true, false}, {minus0(), 0, 0, true, false}, {0, 0, 0, true, true}, {minus0(), minus0(), 0, true, true}, {0, 5e-324, 1, false, false}, {-5e-324, minus0(), 1, false, false},
		{math.Inf(-1), math.Inf(1), 1, false, false}, {math.Inf(1), math.Inf(1), 0, true, true}, {math.Inf(-1), math.Inf(-1), 0, true, true}, {math.MaxFloat64, math.Inf(1), 1, false, false}, {math.Inf(-1), -math.MaxFloat64, 1, false, false},
		{math.NaN(), 1, -1, false, false}, {1, math.NaN(), -1, false, false}, {math.NaN(), math.NaN(), -1, false, true}, {math.Inf(1), math.NaN(), -1, false, false}, {math.NaN(), math.Inf(-1), -1, false, false}, {0, math.NaN(), -1, false, false},
	} {
		if n := number.Less(row.x, row.y); n != row.less {
			t.Errorf("Less(%v, %v): %d", row.x, row.y, n)
		}
		if equal := number.Equal(row.x, row.y); equal != row.equal {
			t.Errorf("Equal(%v, %v): %v", row.x, row.y, equal)
		}
		if same := number.Same(row.x, row.y); same != row.same {
			t.Errorf("Same(%v, %v): %v", row.x, row.y, same)
		}
	}
}

func TestNu3NaNs(t *testing.T) {
	for _, x := range nans() {
		for _, y := range slices.Concat(nans(), numbers()) {
			if number.Less(x, y) != -1 || number.Less(y, x) != -1 || number.Equal(x, y) || number.Equal(y, x) {
				t.Errorf("a NaN and %v", y)
			}
			if both := math.IsNaN(y); number.Same(x, y) != both || number.Same(y, x) != both {
				t.Errorf("Same of a NaN and %v", y)
			}
		}
	}
}

// compared is -1, 0, 1 as x is below, like or above y, by the library's fractions.
func compared(x, y float64) int {
	side := func(x float64) int {
		switch {
		case math.IsInf(x, 1):
			return 1
		case math.IsInf(x, -1):
			return -1
		}
		return 0
	}
	if side(x) != 0 || side(y) != 0 {
		return side(x) - side(y)
	}
	return exact(x).Cmp(exact(y))
}

func TestNu3HeldAgainstFractions(t *testing.T) {
	l := numbers()
	for _, x := range l {
		for _, y := range l {
			c := compared(x, y)
			if n := number.Less(x, y); n != 0 && n != 1 || (n == 1) != (c < 0) {
				t.Errorf("Less(%v, %v): %d", x, y, n)
			}
			if number.Equal(x, y) != (c == 0) {
				t.Errorf("Equal(%v, %v)", x, y)
			}
			if number.Same(x, y) != same(x, y) {
				t.Errorf("Same(%v, %v)", x, y)
			}
		}
	}
}

func TestNu4Abs(t *testing.T) {
	f := function{"Abs", number.Abs}
	f.check(t, []floatRow{{0, 0}, {minus0(), 0}, {1, 1}, {-1, 1}, {-0.5, 0.5}, {-5e-324, 5e-324}, {math.Inf(1), math.Inf(1)}, {math.Inf(-1), math.Inf(1)}, {-math.MaxFloat64, math.MaxFloat64}})
	for _, x := range nans() {
		check(t, "Abs", x, number.Abs(x), none())
	}
	for _, x := range finite(1000) {
		check(t, "Abs", x, number.Abs(x), nearest(new(big.Rat).Abs(exact(x)), 1))
	}
}

// isRoot tells whether r is the float nearest to x's root: x lies between the
// squares of the halves of the ways to r's neighbours. (No root lies on a half.)
func isRoot(x, r float64) bool {
	half := func(to float64) *big.Rat {
		sum := new(big.Rat).Add(exact(r), exact(math.Nextafter(r, to)))
		sum.Quo(sum, big.NewRat(2, 1))
		return sum.Mul(sum, sum)
	}
	return half(0).Cmp(exact(x)) < 0 && half(math.Inf(1)).Cmp(exact(x)) > 0
}

func TestNu4Sqrt(t *testing.T) {
	f := function{"Sqrt", number.Sqrt}
	f.check(t, []floatRow{
		{0, 0}, {minus0(), minus0()}, {1, 1}, {4, 2}, {2, 1.4142135623730951}, {0.25, 0.5}, {math.Inf(1), math.Inf(1)}, {math.Ldexp(1, -1074), math.Ldexp(1, -537)}, {1e300, 1e150},
		{-1, none()}, {-5e-324, none()}, {-0.25, none()}, {math.Inf(-1), none()}, {-math.MaxFloat64, none()},
	})
	for _, x := range nans() {
		check(t, "Sqrt", x, number.Sqrt(x), none())
	}
	for _, x := range finite(3000) {
		switch r := number.Sqrt(x); {
		case x < 0:
			check(t, "Sqrt", x, r, none())
		case x > 0 && !isRoot(x, r):
			t.Errorf("Sqrt(%v): %v", x, r)
		}
	}
	for n := range 2000 {
		check(t, "Sqrt", float64(n*n), number.Sqrt(float64(n*n)), float64(n))
	}
}

func TestNu4LeastAndMost(t *testing.T) {
	inf := math.Inf(1)
	for _, row := range []struct {
		l           []float64
		least, most float64
	}{
		{nil, inf, -inf}, {[]float64{}, inf, -inf}, {[]float64{5}, 5, 5}, {[]float64{-5}, -5, -5}, {[]float64{inf}, inf, inf}, {[]float64{-inf}, -inf, -inf}, {[]float64{inf, -inf}, -inf, inf},
		{[]float64{1, 2, 3}, 1, 3}, {[]float64{3, 2, 1}, 1, 3}, {[]float64{2, 1, 3, 2}, 1, 3}, {[]float64{-1, -2}, -2, -1}, {[]float64{0}, 0, 0}, {[]float64{minus0()}, minus0(), minus0()},
		{[]float64{0, minus0()}, minus0(), 0}, {[]float64{minus0(), 0}, minus0(), 0}, {[]float64{0, minus0(), 0}, minus0(), 0}, {[]float64{minus0(), 0, minus0()}, minus0(), 0},
		{[]float64{minus0(), 1}, minus0(), 1}, {[]float64{-1, minus0()}, -1, minus0()}, {[]float64{-1, 0, minus0()}, -1, 0}, {[]float64{1, 0, minus0()}, minus0(), 1}, {[]float64{5e-324, 0}, 0, 5e-324},
		{[]float64{math.NaN()}, none(), none()}, {[]float64{1, math.NaN()}, none(), none()}, {[]float64{math.NaN(), 1}, none(), none()}, {[]float64{-inf, math.NaN()}, none(), none()}, {[]float64{math.NaN(), -inf}, none(), none()},
		{[]float64{inf, math.NaN()}, none(), none()}, {[]float64{math.NaN(), inf}, none(), none()}, {[]float64{1, math.NaN(), 2}, none(), none()}, {[]float64{-inf, math.NaN(), inf}, none(), none()},
	} {
		if x := number.Least(row.l); !same(x, row.least) {
			t.Errorf("Least(%v): %v", row.l, x)
		}
		if x := number.Most(row.l); !same(x, row.most) {
			t.Errorf("Most(%v): %v", row.l, x)
		}
	}
}

// Of many numbers in any order the least stands first in their order, the
// greatest last; a NaN among them makes both a NaN.
func TestNu4LeastAndMostOfMany(t *testing.T) {
	draw := draws()
	all := finite(50)
	for range 300 {
		var l []float64
		for range draw()%20 + 1 {
			l = append(l, all[draw()%uint64(len(all))])
		}
		sorted := slices.Clone(l)
		slices.SortFunc(sorted, func(x, y float64) int {
			if x == y {
				return int(math.Float64bits(y)>>63) - int(math.Float64bits(x)>>63)
			}
			return compared(x, y)
		})
		if x := number.Least(l); !same(x, sorted[0]) {
			t.Errorf("Least(%v): %v", l, x)
		}
		if x := number.Most(l); !same(x, sorted[len(l)-1]) {
			t.Errorf("Most(%v): %v", l, x)
		}
		for _, x := range nans() {
			l[draw()%uint64(len(l))] = x
			if least, most := number.Least(l), number.Most(l); !same(least, none()) || !same(most, none()) {
				t.Errorf("Least, Most of %v: %v, %v", l, least, most)
			}
		}
	}
}
