package number

import "math"

// Integer is a number without its fraction.
func Integer(x float64) float64 {
	if math.IsNaN(x) {
		return 0
	}
	return math.Trunc(x)
}

// Int32 is a number as one of 32 bits with a sign.
func Int32(x float64) int32 { return int32(Uint32(x)) }

// Uint32 is a number as one of 32 bits.
func Uint32(x float64) uint32 {
	if math.IsNaN(x) || math.IsInf(x, 0) {
		return 0
	}
	return uint32(int64(math.Mod(x, 1<<32)))
}

// Uint16 is a number as one of 16 bits.
func Uint16(x float64) uint16 { return uint16(Uint32(x)) }

// Place is a number as a place, from a least to a greatest one.
func Place(x float64, least, most int) int {
	return int(min(max(nearInt(Integer(x)), int64(least)), int64(most)))
}

// nearInt is a whole number; beyond what an int64 holds the int64 nearest to it.
// (Held against floats, great places would be rounded.)
func nearInt(whole float64) int64 {
	switch {
	case whole >= 1<<63:
		return math.MaxInt64
	case whole < -1<<63:
		return math.MinInt64
	}
	return int64(whole)
}

// Index is a number as an array's index; false: it is none.
func Index(x float64) (uint32, bool) {
	n := Uint32(x)
	if float64(n) != x || n == math.MaxUint32 {
		return 0, false
	}
	return n, true
}

// Floor is the greatest whole number that is not above a number.
func Floor(x float64) float64 { return told(math.Floor(x)) }

// Ceil is the least whole number that is not below a number.
func Ceil(x float64) float64 { return told(math.Ceil(x)) }

// Round is the whole number that is nearest to a number.
func Round(x float64) float64 {
	whole := math.Floor(x)
	// x + 0.5 would be rounded: 0.49999999999999994 and 0.5 are 1 as a float.
	if x-whole >= 0.5 {
		whole++
	}
	// What is rounded up to 0 from below is -0.
	return told(math.Copysign(whole, x))
}
