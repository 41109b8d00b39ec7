package bignum

import (
	"math"
	"math/bits"

	"quill/api"
)

const (
	maxBits      = 1024  // of a natural whose float may be finite
	fractionBits = 52    // that a float keeps of its whole number
	lowest       = -1074 // power of 2 in a float
)

// Float is the float nearest to a natural.
func Float(a []uint32) float64 {
	n := Bits(a)
	if n > maxBits {
		return math.Inf(1)
	}
	// The highest 64 bits are rounded. A float has so many fewer that whatever
	// is lost below them counts only where they lie half between two.
	behind := max(n-64, 0)
	high, lost := Shr(a, behind)
	whole := uint64(word(high, 1))<<32 | uint64(word(high, 0))
	if lost {
		whole |= 1
	}
	return math.Ldexp(float64(whole), behind)
}

// Parts is a float's whole number and the power of 2 that it is times.
func Parts(x float64) ([]uint32, int, api.Errno) {
	if math.IsNaN(x) || math.IsInf(x, 1) || x < 0 {
		return nil, 0, api.ErrArg
	}
	if x == 0 {
		return nil, 0, api.OK
	}
	whole, power := split(x)
	zeros := bits.TrailingZeros64(whole)
	return Of(whole >> zeros), power + zeros, api.OK
}

// split is a whole number and the power of 2 that it is times in a finite float
// above 0: as they are written in its bits.
func split(x float64) (uint64, int) {
	written := math.Float64bits(x)
	whole, power := written&(1<<fractionBits-1), int(written>>fractionBits)
	if power == 0 {
		return whole, lowest
	}
	return whole | 1<<fractionBits, lowest + power - 1
}
