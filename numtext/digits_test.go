package numtext_test

import (
	"math"
	"math/big"
	"strings"
	"testing"

	"quill/api"
	"quill/numtext"
)

// halfUp is x rounded to a whole number, of two as near to the greater one.
func halfUp(x *big.Rat) *big.Int { return floor(new(big.Rat).Add(x, big.NewRat(1, 2))) }

// fixed is what Nt3 says of a float not below 0 and below 10^21.
func fixed(x float64, digits int) string {
	s := halfUp(new(big.Rat).Mul(exact(x), ten(digits))).String()
	for len(s) < digits+1 {
		s = "0" + s
	}
	if digits == 0 {
		return s
	}
	return s[:len(s)-digits] + "." + s[len(s)-digits:]
}

func TestNt3(t *testing.T) {
	rows := []struct {
		x      float64
		digits int
		want   string
	}{
		{1.005, 2, "1.00"}, {2.5, 0, "3"}, {-1.5, 0, "-2"}, {-2.5, 0, "-3"}, {1.5, 0, "2"}, {0.5, 0, "1"}, {-0.5, 0, "-1"}, {0.25, 1, "0.3"}, {0.125, 2, "0.13"},
		{0, 0, "0"}, {0, 2, "0.00"}, {math.Copysign(0, -1), 2, "0.00"}, {math.Copysign(0, -1), 0, "0"}, {-0.0001, 2, "-0.00"}, {-5e-324, 0, "-0"},
		{123.456, 0, "123"}, {123.456, 2, "123.46"}, {123.456, 5, "123.45600"}, {0.000001, 7, "0.0000010"}, {0.1, 20, "0.10000000000000000555"},
		{9.995, 2, "9.99"}, {9.9951, 2, "10.00"}, {99.99, 1, "100.0"}, {0.9, 0, "1"}, {0.05, 1, "0.1"}, {10, 0, "10"}, {100, 2, "100.00"},
		{1e20, 2, "100000000000000000000.00"}, {999999999999999868928, 0, "999999999999999868928"}, {-999999999999999868928, 1, "-999999999999999868928.0"},
		{1e21, 0, "1e+21"}, {1e21, 20, "1e+21"}, {-1e21, 2, "-1e+21"}, {1.5e300, 3, "1.5e+300"}, {math.MaxFloat64, 0, "1.7976931348623157e+308"},
		{math.NaN(), 2, "NaN"}, {math.Inf(1), 2, "Infinity"}, {math.Inf(-1), 0, "-Infinity"}, {5e-324, 20, "0.00000000000000000000"}, {4.5e-21, 20, "0.00000000000000000000"}, {6e-21, 20, "0.00000000000000000001"},
		{1000000000000000128, 1, "1000000000000000128.0"}, {0.000000000000000000012345, 20, "0.00000000000000000001"},
	}
	for _, row := range rows {
		s, errno := numtext.Fixed(row.x, row.digits)
		told(t, named("Fixed", row.x, row.digits), s, errno, row.want)
	}
	for _, l := range [][]float64{edges(), drawn(200)} {
		for _, x := range l {
			for digits := range 21 {
				want := laid(shortest(x))
				if x < 1e21 {
					want = fixed(x, digits)
				}
				s, errno := numtext.Fixed(x, digits)
				told(t, named("Fixed", x, digits), s, errno, want)
				s, errno = numtext.Fixed(-x, digits)
				told(t, named("Fixed", -x, digits), s, errno, "-"+want)
			}
		}
	}
}

// Of eighths just half lies between two with 0 to 2 digits.
func TestNt3Halves(t *testing.T) {
	for n := range 2000 {
		for digits := range 3 {
			s, errno := numtext.Fixed(float64(n)/8, digits)
			told(t, named("Fixed", float64(n)/8, digits), s, errno, fixed(float64(n)/8, digits))
		}
	}
}

// leading is the first digits of x, so many, and the exponent, by trying: of the
// exponents around, and the digits below and above, what lies nearest, of two as
// near the greater number.
func leading(x float64, count int) (string, int) {
	if x == 0 {
		return strings.Repeat("0", count), 0
	}
	least, behind := ten(count-1).Num(), ten(count).Num()
	var best, away *big.Rat
	var digits *big.Int
	exponent := 0
	for e := place(x) - 2; e <= place(x); e++ {
		down := floor(new(big.Rat).Mul(exact(x), ten(count-1-e)))
		for _, n := range []*big.Int{down, new(big.Int).Add(down, big.NewInt(1))} {
			if n.Cmp(least) < 0 || n.Cmp(behind) >= 0 {
				continue
			}
			amount := new(big.Rat).Mul(new(big.Rat).SetInt(n), ten(e-count+1))
			d := new(big.Rat).Sub(amount, exact(x))
			d.Abs(d)
			if best == nil || d.Cmp(away) < 0 || d.Cmp(away) == 0 && amount.Cmp(best) > 0 {
				best, away, digits, exponent = amount, d, n, e
			}
		}
	}
	return digits.String(), exponent
}

func TestNt4(t *testing.T) {
	rows := []struct {
		x      float64
		digits int
		want   string
	}{
		{123456, 2, "1.23e+5"}, {123456, 0, "1e+5"}, {123456, -1, "1.23456e+5"}, {123456, 7, "1.2345600e+5"}, {-123456, 2, "-1.23e+5"},
		{0, -1, "0e+0"}, {0, 0, "0e+0"}, {0, 1, "0.0e+0"}, {0, 2, "0.00e+0"}, {math.Copysign(0, -1), 2, "0.00e+0"}, {math.Copysign(0, -1), -1, "0e+0"},
		{0, 20, "0.00000000000000000000e+0"}, {1, 0, "1e+0"}, {1, -1, "1e+0"}, {1, 2, "1.00e+0"}, {10, -1, "1e+1"}, {-10, -1, "-1e+1"}, {0.1, -1, "1e-1"}, {0.00015, 1, "1.5e-4"},
		{2.5, 0, "3e+0"}, {-2.5, 0, "-3e+0"}, {3.5, 0, "4e+0"}, {0.5, 0, "5e-1"}, {0.125, 1, "1.3e-1"}, {12.5, 1, "1.3e+1"}, {25, 0, "3e+1"}, {45, 0, "5e+1"},
		{9.5, 0, "1e+1"}, {95, 0, "1e+2"}, {99.5, 1, "1.0e+2"}, {9.96, 1, "1.0e+1"}, {9.94, 1, "9.9e+0"}, {0.96, 0, "1e+0"}, {999999, 2, "1.00e+6"}, {9.5, -1, "9.5e+0"},
		{5e-324, -1, "5e-324"}, {5e-324, 20, "4.94065645841246544177e-324"}, {math.MaxFloat64, 3, "1.798e+308"}, {math.MaxFloat64, -1, "1.7976931348623157e+308"},
		{0.1, 20, "1.00000000000000005551e-1"}, {1e21, -1, "1e+21"}, {1e-7, -1, "1e-7"}, {1e21, 1, "1.0e+21"},
		{math.NaN(), 2, "NaN"}, {math.NaN(), -1, "NaN"}, {math.Inf(1), 20, "Infinity"}, {math.Inf(-1), -1, "-Infinity"}, {math.Inf(-1), 3, "-Infinity"},
	}
	for _, row := range rows {
		s, errno := numtext.Exponential(row.x, row.digits)
		told(t, named("Exponential", row.x, row.digits), s, errno, row.want)
	}
}

func TestNt4HeldAgainstTrying(t *testing.T) {
	for _, l := range [][]float64{edges(), drawn(60)} {
		for _, x := range l {
			for digits := range 21 {
				want := spread(leading(x, digits+1))
				s, errno := numtext.Exponential(x, digits)
				told(t, named("Exponential", x, digits), s, errno, want)
				s, errno = numtext.Exponential(-x, digits)
				told(t, named("Exponential", -x, digits), s, errno, "-"+want)
			}
			digits, n := shortest(x)
			s, errno := numtext.Exponential(x, -1)
			told(t, named("Exponential", x, -1), s, errno, spread(digits, n-1))
		}
	}
	// All places that the point of a float can have.
	for _, x := range powers() {
		for _, digits := range []int{0, 16} {
			s, errno := numtext.Exponential(x, digits)
			told(t, named("Exponential", x, digits), s, errno, spread(leading(x, digits+1)))
		}
	}
}

// precise is what Nt5 says of a float not below 0.
func precise(x float64, digits int) string {
	s, e := leading(x, digits)
	switch {
	case e < -6 || e >= digits:
		return spread(s, e)
	case e == digits-1:
		return s
	case e >= 0:
		return s[:e+1] + "." + s[e+1:]
	}
	return "0." + strings.Repeat("0", -(e+1)) + s
}

func TestNt5(t *testing.T) {
	rows := []struct {
		x      float64
		digits int
		want   string
	}{
		{0.00001, 1, "0.00001"}, {123, 2, "1.2e+2"}, {123, 3, "123"}, {123, 4, "123.0"}, {123, 5, "123.00"}, {-123, 4, "-123.0"}, {123, 1, "1e+2"},
		{0, 1, "0"}, {0, 2, "0.0"}, {0, 21, "0.00000000000000000000"}, {math.Copysign(0, -1), 1, "0"}, {math.Copysign(0, -1), 3, "0.00"},
		{0.000001, 1, "0.000001"}, {0.000001, 2, "0.0000010"}, {0.0000001, 1, "1e-7"}, {0.0000001, 2, "1.0e-7"}, {0.00000096, 1, "0.000001"}, {0.00000094, 1, "9e-7"},
		{99.5, 2, "1.0e+2"}, {9.5, 1, "1e+1"}, {9.5, 2, "9.5"}, {9.95, 2, "9.9"}, {99.5, 3, "99.5"}, {0.5, 1, "0.5"}, {2.5, 1, "3"}, {-2.5, 1, "-3"}, {0.25, 1, "0.3"},
		{1e21, 21, "1.00000000000000000000e+21"}, {1e20, 21, "100000000000000000000"}, {1e20, 20, "1.0000000000000000000e+20"}, {1, 21, "1.00000000000000000000"},
		{0.1, 21, "0.100000000000000005551"}, {5e-324, 1, "5e-324"}, {math.MaxFloat64, 2, "1.8e+308"}, {1234.5678, 6, "1234.57"}, {1234.5678, 4, "1235"}, {10, 1, "1e+1"}, {10, 2, "10"},
		{math.NaN(), 1, "NaN"}, {math.Inf(1), 21, "Infinity"}, {math.Inf(-1), 1, "-Infinity"},
	}
	for _, row := range rows {
		s, errno := numtext.Precision(row.x, row.digits)
		told(t, named("Precision", row.x, row.digits), s, errno, row.want)
	}
	for _, l := range [][]float64{edges(), drawn(60)} {
		for _, x := range l {
			for digits := 1; digits <= 21; digits++ {
				want := precise(x, digits)
				s, errno := numtext.Precision(x, digits)
				told(t, named("Precision", x, digits), s, errno, want)
				s, errno = numtext.Precision(-x, digits)
				told(t, named("Precision", -x, digits), s, errno, "-"+want)
			}
		}
	}
}

// What is told of numbers of digits that may not be, whatever the float.
func TestNt3ToNt5Wrong(t *testing.T) {
	calls := []struct {
		name        string
		call        func(float64, int) (string, api.Errno)
		least, most int
	}{{"Fixed", numtext.Fixed, 0, 20}, {"Exponential", numtext.Exponential, -1, 20}, {"Precision", numtext.Precision, 1, 21}}
	floats := []float64{0, 1, -1, 0.5, 1e21, -1e21, 1e300, 5e-324, math.NaN(), math.Inf(1), math.Inf(-1)}
	for _, c := range calls {
		for _, x := range floats {
			for _, n := range []int{math.MinInt, -100, c.least - 2, c.least - 1, c.most + 1, c.most + 2, 100, 256, 1 << 32, math.MaxInt} {
				s, errno := c.call(x, n)
				refused(t, named(c.name, x, n), s, errno)
			}
			for n := c.least; n <= c.most; n++ {
				if s, errno := c.call(x, n); s == "" || errno != api.OK {
					t.Errorf("%s: %q, error %d", named(c.name, x, n), s, errno)
				}
			}
		}
	}
}
