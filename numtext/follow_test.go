package numtext_test

import (
	"math"
	"math/big"
	"slices"
	"strconv"
	"strings"
	"testing"

	"quill/api"
	"quill/numtext"
	"quill/ustr"
)

// Number of Text is the number, Literal and Float of Text likewise.
func TestNt8RoundTrip(t *testing.T) {
	for _, l := range [][]float64{edges(), powers(), drawn(2000), halfWays()} {
		for _, x := range l {
			s := numtext.Text(x)
			if y := numtext.Number(s); y != x {
				t.Errorf("Number of Text(%v): %v", x, y)
			}
			if y, ok := numtext.Literal(s); y != x || !ok {
				t.Errorf("Literal of Text(%v): %v, %v", x, y, ok)
			}
			if y := numtext.Float(s); y != x {
				t.Errorf("Float of Text(%v): %v", x, y)
			}
			back := numtext.Text(-x)
			if y := numtext.Number(back); y != -x {
				t.Errorf("Number of Text(%v): %v", -x, y)
			}
			if y, ok := numtext.Literal(back); !same(y, 0) || ok {
				t.Errorf("Literal of Text(%v): %v, %v", -x, y, ok)
			}
		}
	}
	if s := numtext.Text(math.Copysign(0, -1)); !same(numtext.Number(s), 0) {
		t.Errorf("of -0: %q", s)
	}
	for _, x := range []float64{math.Inf(1), math.Inf(-1), none()} {
		if y := numtext.Number(numtext.Text(x)); !same(y, x) {
			t.Errorf("of %v: %v", x, y)
		}
		if _, ok := numtext.Literal(numtext.Text(x)); ok {
			t.Errorf("a literal: %v", x)
		}
	}
}

// Shortest digits are read as the number, and Radix's of a whole one.
func TestNt8Digits(t *testing.T) {
	for _, l := range [][]float64{edges(), powers(), drawn(500)} {
		for _, x := range l {
			s, n, _ := numtext.Shortest(x)
			if y := numtext.Number(s + ustr.Wide("e"+strconv.Itoa(n-ustr.Len(s)))); y != x {
				t.Errorf("of Shortest(%v): %v", x, y)
			}
			if x != math.Trunc(x) {
				continue
			}
			for _, radix := range []int{2, 3, 16, 36} {
				s, _ := numtext.Radix(x, radix)
				if y := numtext.Int(s, radix); y != x {
					t.Errorf("Int of Radix(%v, %d): %v", x, radix, y)
				}
			}
		}
	}
}

func TestNt8FloatAndNumber(t *testing.T) {
	for _, s := range []string{"0", "1", "5.", ".5", "1e5", "1.5e-7", "010", "123456789012345678901234567890", "1e400", "1e-400", "9007199254740993", "0e0"} {
		for _, sign := range []string{"", "+", "-"} {
			if x, y := numtext.Float(wide(sign+s)), numtext.Number(wide(sign+s)); !same(x, y) || math.IsNaN(x) {
				t.Errorf("of %q: %v, %v", sign+s, x, y)
			}
		}
	}
}

// Of a number that has so few digits, all calls tell those of Text. (With more
// than 15 a float may have other neighbours as near, unless it is those digits
// exactly.)
func TestNt8AsText(t *testing.T) {
	ok := func(s string, errno api.Errno) string {
		if errno != api.OK {
			t.Errorf("error %d", errno)
		}
		return ustr.Encode(s)
	}
	few := []float64{0.5, 0.125, 1.25, 1e15, 123456789012345, 0.001, 0.000123, 12.34, 1234567890.12345, 9007199254740991, 5e-324, 1e21, 1.5e300}
	for _, l := range [][]float64{few, edges(), drawn(300)} {
		for _, x := range l {
			s, n, _ := numtext.Shortest(x)
			k := ustr.Len(s)
			if k > 15 && !isExactly(x, ustr.Encode(s), n-k) {
				continue
			}
			if got := ok(numtext.Exponential(x, k-1)); got != spread(ustr.Encode(s), n-1) {
				t.Errorf("Exponential(%v, %d): %s", x, k-1, got)
			}
			if got := ok(numtext.Exponential(x, k-1)); got != ok(numtext.Exponential(x, -1)) {
				t.Errorf("Exponential(%v, %d): %s", x, k-1, got)
			}
			if n >= -5 && n <= k && strings.TrimRight(ok(numtext.Precision(x, k)), "0.") != strings.TrimRight(ustr.Encode(numtext.Text(x)), "0.") {
				t.Errorf("Precision(%v, %d): %s", x, k, ok(numtext.Precision(x, k)))
			}
			if k-n >= 0 && k-n <= 20 && n > -6 && n <= 15 {
				if got := ok(numtext.Fixed(x, k-n)); got != ustr.Encode(numtext.Text(x)) {
					t.Errorf("Fixed(%v, %d): %s", x, k-n, got)
				}
			}
		}
	}
}

// isExactly tells whether x is the digits, times 10^n.
func isExactly(x float64, digits string, n int) bool {
	amount, _ := new(big.Rat).SetString(digits)
	return amount.Mul(amount, ten(n)).Cmp(exact(x)) == 0
}

// Decimals in their order have floats in that order.
func TestNt9(t *testing.T) {
	var l []*big.Rat
	for _, x := range slices.Concat(edges(), drawn(100)) {
		n, e := halfWay(x)
		half := new(big.Rat).Mul(new(big.Rat).SetInt(n), ten(e))
		for _, d := range []int{-1, 0, 1} {
			l = append(l, new(big.Rat).Add(half, new(big.Rat).Mul(big.NewRat(int64(d), 1), ten(e-5))))
		}
	}
	slices.SortFunc(l, (*big.Rat).Cmp)
	last := 0.0
	for _, x := range l {
		s := x.FloatString(1100)
		y := numtext.Number(wide(s))
		if !(y >= last) {
			t.Errorf("%v after %v", y, last)
		}
		if z := numtext.Number(wide("-" + s)); z != -y {
			t.Errorf("%v and %v", y, z)
		}
		if z := numtext.Float(wide(s)); z != y {
			t.Errorf("%v and %v", y, z)
		}
		last = y
	}
	// Neighbours in the last of many digits.
	for _, start := range []string{"9007199254740", "17976931348623", "22250738585072", "4940656458412"} {
		for _, e := range []int{-340, -324, -323, -20, 0, 290, 294, 300} {
			last := -1.0
			for n := range 1000 {
				x := numtext.Number(wide(start + strconv.Itoa(1000 + n)[1:] + "e" + strconv.Itoa(e)))
				if !(x >= last) {
					t.Errorf("%s%03de%d: %v after %v", start, n, e, x, last)
				}
				last = x
			}
		}
	}
	// Whole numbers of a radix.
	for radix := 2; radix <= 36; radix++ {
		last := -1.0
		for n := range 300 {
			s := strconv.FormatInt(1<<53+1<<40+int64(n), radix)
			x := numtext.Int(wide(s), radix)
			if !(x >= last) {
				t.Errorf("%s in %d: %v after %v", s, radix, x, last)
			}
			last = x
		}
	}
}
