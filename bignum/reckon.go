package bignum

import (
	"math/bits"

	"quill/api"
)

// Add is a sum.
func Add(a, b []uint32) ([]uint32, api.Errno) {
	if tooLong(a, b) {
		return nil, api.ErrLong
	}
	a, b = cut(a), cut(b)
	sum := make([]uint32, max(len(a), len(b))+1)
	var carry uint32
	for i := range sum {
		sum[i], carry = bits.Add32(word(a, i), word(b, i), carry)
	}
	return answer(sum)
}

// Sub is a difference.
func Sub(a, b []uint32) ([]uint32, api.Errno) {
	if tooLong(a, b) {
		return nil, api.ErrLong
	}
	if Cmp(a, b) < 0 {
		return nil, api.ErrArg
	}
	a, b = cut(a), cut(b)
	difference := make([]uint32, len(a))
	var borrow uint32
	for i := range difference {
		difference[i], borrow = bits.Sub32(a[i], word(b, i), borrow)
	}
	return answer(difference)
}

// Mul is a product.
func Mul(a, b []uint32) ([]uint32, api.Errno) {
	if tooLong(a, b) {
		return nil, api.ErrLong
	}
	a, b = cut(a), cut(b)
	product := make([]uint32, len(a)+len(b))
	for i, x := range a {
		product[i+len(b)] = addTimes(product[i:], b, x)
	}
	return answer(product)
}

// addTimes adds x times b to the words of l of the same places. It tells what
// is to be added behind them.
func addTimes(l, b []uint32, x uint32) uint32 {
	var carry uint64
	for i, w := range b {
		// No sum here is above 2^64 - 1, even of the greatest words.
		carry += uint64(w)*uint64(x) + uint64(l[i])
		l[i] = uint32(carry)
		carry >>= 32
	}
	return uint32(carry)
}

// timesPlus is a times x, and y, written over a.
func timesPlus(a []uint32, x, y uint32) []uint32 {
	carry := uint64(y)
	for i, w := range a {
		carry += uint64(w) * uint64(x)
		a[i] = uint32(carry)
		carry >>= 32
	}
	if carry == 0 {
		return a
	}
	return append(a, uint32(carry))
}

// Pow is a power.
func Pow(base uint32, n int) ([]uint32, api.Errno) {
	if n < 0 {
		return nil, api.ErrArg
	}
	factor, power := Of(uint64(base)), Of(1)
	// From n's highest bit on no step is above the power: if one is too long,
	// so is it.
	for i := bits.Len(uint(n)) - 1; i >= 0; i-- {
		var errno api.Errno
		power, errno = Mul(power, power)
		if errno == api.OK && n>>i&1 == 1 {
			power, errno = Mul(power, factor)
		}
		if errno != api.OK {
			return nil, errno
		}
	}
	return power, api.OK
}
