package numtext

import (
	"math"
	"math/bits"
	"strings"

	"quill/bignum"
)

// All naturals here have some thousand bits, far fewer than layer 2 lets; so its
// errors are not asked for.

const (
	precision = 53    // bits of a float's whole number
	lowest    = -1074 // the least power of 2 that a float's last bit stands for
)

// raised is m times 5^n; m, if n is below 0.
func raised(m []uint32, n int) []uint32 {
	power, _ := bignum.Pow(5, max(n, 0))
	product, _ := bignum.Mul(m, power)
	return product
}

// ratio is top divided by bottom, times 2^two, rounded down, and whether that is
// exact.
func ratio(top, bottom []uint32, two int) ([]uint32, bool) {
	top, _ = bignum.Shl(top, max(two, 0))
	bottom, _ = bignum.Shl(bottom, max(-two, 0))
	quotient, rest, _ := bignum.Div(top, bottom)
	return quotient, len(rest) == 0
}

// scaled is m times 2^two, times 10^ten, rounded down, and whether that is exact.
func scaled(m []uint32, two, ten int) ([]uint32, bool) {
	return ratio(raised(m, ten), raised(bignum.Of(1), -ten), two+ten)
}

// word is a natural below 2^64.
func word(a []uint32) uint64 {
	var n uint64
	for i, w := range a {
		n |= uint64(w) << (32 * i)
	}
	return n
}

// point is where the point stands in m times 2^two, which is a float above 0:
// the n with which it is below 10^n, and not below 10^(n-1).
func point(m []uint32, two int) int {
	// 78913/2^18 is log10 of 2, so nearly that the product, rounded down, is
	// right for each power of 2 that a float has. What lies up to the next such
	// power may have one digit more.
	n := (bignum.Bits(m)+two-1)*78913>>18 + 1
	if whole, _ := scaled(m, two, -n); len(whole) > 0 {
		n++
	}
	return n
}

// near is the digits of the whole number nearest to m times 2^two, times 10^ten;
// of two as near those of the greater one.
func near(m []uint32, two, ten int) string {
	halves, _ := scaled(m, two+1, ten)
	halves, _ = bignum.Add(halves, bignum.Of(1))
	whole, _ := bignum.Shr(halves, 1)
	digits, _ := bignum.Text(whole, 10)
	return digits
}

// leading is the first digits of x, so many, rounded as near rounds, and the
// exponent of the first one. x is finite and not below 0.
func leading(x float64, count int) (string, int) {
	m, two, _ := bignum.Parts(x)
	if len(m) == 0 {
		return strings.Repeat("0", count), 0
	}
	n := point(m, two)
	digits := near(m, two, count-n)
	// Nines may be rounded up to a digit more.
	return digits[:count], n - 1 + len(digits) - count
}

// nearest is the float nearest to m times 10^ten, of two as near the one whose
// last bit is 0. m is not 0.
func nearest(m []uint32, ten int) float64 {
	top, bottom := raised(m, ten), raised(bignum.Of(1), -ten)
	// The quotient has 62 or 63 bits, or all that stand for 2^(lowest-2) or more.
	// So a float's last bit lies two above its last one, or more: there what is
	// lost counts as much as a 1 does.
	last := max(bignum.Bits(top)-bignum.Bits(bottom)+ten-62, lowest-2)
	quotient, exact := ratio(top, bottom, ten-last)
	n := word(quotient)
	if !exact {
		n |= 1
	}
	return rounded(n, last)
}

// rounded is the float nearest to n times 2^two. n has bits below a float's last
// one.
func rounded(n uint64, two int) float64 {
	drop := max(bits.Len64(n)-precision, lowest-two)
	whole, rest, half := n>>drop, n&(1<<drop-1), uint64(1)<<(drop-1)
	if rest > half || rest == half && whole&1 == 1 {
		whole++
	}
	return math.Ldexp(float64(whole), two+drop)
}
