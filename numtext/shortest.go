package numtext

import (
	"strconv"
	"strings"

	"quill/bignum"
)

// A float is what all numbers are read as that lie between the halves of its ways
// to its two neighbours. These ends, and the float, are told in units so small
// that the float has 18 digits ahead of its point: one more than it ever takes to
// tell it. Of fewer digits the candidates are the float rounded down and up.

// scale is how many digits a float has, as it is scaled.
const scale = 18

// span is a scaled float, rounded down, and whether that is exact; and the least
// and the greatest whole number that are read as the float.
type span struct {
	here        uint64
	exact       bool
	least, most uint64
}

// shortest is the shortest digits of a float above 0, and where its point is.
func shortest(x float64) (string, int) {
	if x < 1<<53 && x == float64(uint64(x)) {
		// Fewer digits are another whole number, and here no two of these are
		// read as one float. (Most numbers that are told are such; naturals
		// would take longer.)
		return trimmed(uint64(x), 0)
	}
	m, two, _ := bignum.Parts(x)
	n := point(m, two)
	s := spanOf(m, two, scale-n)
	for unit := uint64(1e17); ; unit /= 10 {
		if found, ok := s.candidate(unit); ok {
			return trimmed(found, n-scale)
		}
	}
}

// trimmed is n's digits without noughts at their end, and where the point of n
// times 10^ten is among them.
func trimmed(n uint64, ten int) (string, int) {
	digits := strconv.FormatUint(n, 10)
	return strings.TrimRight(digits, "0"), len(digits) + ten
}

// spanOf is the span of m times 2^two, times 10^ten. m is odd.
func spanOf(m []uint32, two, ten int) span {
	last := max(bignum.Bits(m)+two-precision, lowest)
	// All is counted in quarters of what the last bit stands for.
	quarters, _ := bignum.Shl(m, two-last+2)
	below := uint64(2)
	if bignum.Bits(m) == 1 && last > lowest {
		below = 1 // floats lie twice as near below a power of 2
	}
	start, _ := bignum.Sub(quarters, bignum.Of(below))
	end, _ := bignum.Add(quarters, bignum.Of(2))
	here, exact := scaled(quarters, last-2, ten)
	least, leastExact := scaled(start, last-2, ten)
	most, mostExact := scaled(end, last-2, ten)
	s := span{here: word(here), exact: exact, least: word(least), most: word(most)}
	// The ends themselves are read as the float whose last bit is 0.
	even := two > last
	if !leastExact || !even {
		s.least++
	}
	if mostExact && !even {
		s.most--
	}
	return s
}

// candidate is the multiple of unit that is read as the float and lies nearest to
// it, of two as near the even one; false: there is none. unit is even.
func (s span) candidate(unit uint64) (uint64, bool) {
	down := s.here - s.here%unit
	up := down + unit
	downward, upward := s.least <= down, up <= s.most
	if downward && upward {
		downward = s.nearer(down, unit)
	}
	if downward {
		return down, true
	}
	return up, upward
}

// nearer tells whether the multiple of unit below the float is rather taken than
// the one above it.
func (s span) nearer(down, unit uint64) bool {
	half := unit / 2
	switch {
	case s.here-down != half:
		return s.here-down < half
	case !s.exact:
		return false
	}
	return down/unit%2 == 0
}
