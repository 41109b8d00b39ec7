package bignum

import "quill/api"

// Shl is a natural times a power of 2.
func Shl(a []uint32, n int) ([]uint32, api.Errno) {
	a = cut(a)
	switch {
	case tooLong(a):
		return nil, api.ErrLong
	case n < 0:
		return nil, api.ErrArg
	case len(a) == 0:
		return nil, api.OK
	case n > 32*api.MaxWords-Bits(a):
		return nil, api.ErrLong
	}
	l := make([]uint32, n/32+len(a)+1)
	shiftLeft(l[n/32:], a, n%32)
	return answer(l)
}

// shiftLeft writes a times 2^n to l, as many words as l has. n is below 32.
func shiftLeft(l, a []uint32, n int) {
	for i := range l {
		l[i] = word(a, i)<<n | word(a, i-1)>>(32-n)
	}
}

// Shr is a natural divided by a power of 2, and whether something is lost.
func Shr(a []uint32, n int) ([]uint32, bool) {
	a = cut(a)
	switch {
	case n <= 0:
		return Norm(a), false
	case n >= Bits(a):
		return nil, len(a) > 0
	}
	l := make([]uint32, len(a)-n/32)
	shiftRight(l, a[n/32:], n%32)
	return cut(l), loses(a, n)
}

// shiftRight writes a divided by 2^n to l, which may be a itself. n is below 32.
func shiftRight(l, a []uint32, n int) {
	for i := range l {
		l[i] = word(a, i)>>n | word(a, i+1)<<(32-n)
	}
}

// loses tells whether one of a's lowest n bits is 1. a has more than n bits.
func loses(a []uint32, n int) bool {
	for _, w := range a[:n/32] {
		if w != 0 {
			return true
		}
	}
	return a[n/32]<<(32-n%32) != 0
}
