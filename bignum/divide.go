package bignum

import (
	"math"
	"math/bits"

	"quill/api"
)

// Div is a quotient, and the rest.
func Div(a, b []uint32) ([]uint32, []uint32, api.Errno) {
	if tooLong(a, b) {
		return nil, nil, api.ErrLong
	}
	a, b = cut(a), cut(b)
	switch {
	case len(b) == 0:
		return nil, nil, api.ErrNone
	case len(a) < len(b):
		return nil, Norm(a), api.OK
	case len(b) == 1:
		quotient := Norm(a)
		rest := divideWord(quotient, b[0])
		return cut(quotient), Of(uint64(rest)), api.OK
	}
	quotient, rest := divideLong(a, b)
	return cut(quotient), cut(rest), api.OK
}

// divideWord divides a by a word, in its place. It tells the rest.
func divideWord(a []uint32, by uint32) uint32 {
	var rest uint32
	for i := len(a) - 1; i >= 0; i-- {
		a[i], rest = bits.Div32(rest, a[i], by)
	}
	return rest
}

// divideLong divides by two words or more, and not more than a has, as it is
// done by hand: word by word. For that both are shifted, so that the divisor's
// highest bit stands at its word's end: then a quotient's word that is guessed
// by the highest words alone is at most 2 too great (Knuth, 4.3.1, theorem B).
func divideLong(a, b []uint32) ([]uint32, []uint32) {
	shift := bits.LeadingZeros32(b[len(b)-1])
	divisor := make([]uint32, len(b))
	shiftLeft(divisor, b, shift)
	rest := make([]uint32, len(a)+1)
	shiftLeft(rest, a, shift)
	quotient := make([]uint32, len(a)-len(b)+1)
	for i := len(quotient) - 1; i >= 0; i-- {
		quotient[i] = divideStep(rest[i:i+len(b)+1], divisor)
	}
	shiftRight(rest, rest, shift)
	return quotient, rest
}

// divideStep takes the divisor from part as often as it goes, and tells how
// often. part has one word more, and is below 2^32 times the divisor.
func divideStep(part, divisor []uint32) uint32 {
	n := len(divisor)
	often := guess(part[n], part[n-1], divisor[n-1])
	taken := subTimes(part, divisor, often)
	var below uint32
	part[n], below = bits.Sub32(part[n], taken, 0)
	for below == 1 {
		often--
		carry := addTimes(part, divisor, 1)
		part[n], carry = bits.Add32(part[n], carry, 0)
		below -= carry
	}
	return often
}

// guess is how often a word goes into two, but a word at most. high is not
// above by.
func guess(high, low, by uint32) uint32 {
	if high >= by {
		return math.MaxUint32
	}
	often, _ := bits.Div32(high, low, by)
	return often
}

// subTimes takes x times b from the words of l of the same places. It tells
// what is to be taken behind them.
func subTimes(l, b []uint32, x uint32) uint32 {
	var carry uint64
	for i, w := range b {
		carry += uint64(w) * uint64(x)
		less, borrow := bits.Sub32(l[i], uint32(carry), 0)
		l[i] = less
		carry = carry>>32 + uint64(borrow)
	}
	return uint32(carry)
}
