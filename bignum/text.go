package bignum

import (
	"math"
	"slices"
	"strings"

	"quill/api"
)

const (
	digits   = "0123456789abcdefghijklmnopqrstuvwxyz"
	minRadix = 2
	maxRadix = len(digits)
)

// Digits are read and told as many at once as a word holds: so that a natural
// is gone through once for these, not once for each.

// group is how many digits of a radix a word holds whatever they are, and the
// radix to that power.
func group(radix int) (int, uint32) {
	count, power := 1, uint64(radix)
	for power*uint64(radix) <= math.MaxUint32 {
		count++
		power *= uint64(radix)
	}
	return count, uint32(power)
}

// Text is a natural's digits.
func Text(a []uint32, radix int) (string, api.Errno) {
	if radix < minRadix || radix > maxRadix {
		return "", api.ErrArg
	}
	if tooLong(a) {
		return "", api.ErrLong
	}
	rest := Norm(a)
	if len(rest) == 0 {
		return "0", api.OK
	}
	count, power := group(radix)
	var back []byte // the digits from the last one on
	for len(rest) > 0 {
		part := divideWord(rest, power)
		rest = cut(rest)
		for range count {
			back = append(back, digits[part%uint32(radix)])
			part /= uint32(radix)
		}
	}
	slices.Reverse(back)
	return strings.TrimLeft(string(back), "0"), api.OK
}

// Parse is the natural of digits.
func Parse(s string, radix int) ([]uint32, api.Errno) {
	if radix < minRadix || radix > maxRadix {
		return nil, api.ErrArg
	}
	if !allDigits(s, radix) {
		return nil, api.ErrNone
	}
	count, _ := group(radix)
	var a []uint32
	for len(s) > 0 {
		n := min(count, len(s))
		value, power := small(s[:n], radix)
		a = timesPlus(a, power, value)
		// More digits make it no shorter; so a long text takes no longer.
		if tooLong(a) {
			return nil, api.ErrLong
		}
		s = s[n:]
	}
	return answer(a)
}

// allDigits tells whether s has digits of a radix, and nothing else.
func allDigits(s string, radix int) bool {
	for i := range len(s) {
		if digit(s[i]) >= radix {
			return false
		}
	}
	return len(s) > 0
}

// digit is what a digit counts; maxRadix, if it is none of any radix.
func digit(c byte) int {
	switch {
	case c >= '0' && c <= '9':
		return int(c - '0')
	case c >= 'a' && c <= 'z':
		return int(c-'a') + 10
	case c >= 'A' && c <= 'Z':
		return int(c-'A') + 10
	}
	return maxRadix
}

// small is the number of digits that a word holds, and the radix to the power
// of how many they are.
func small(s string, radix int) (uint32, uint32) {
	value, power := uint32(0), uint32(1)
	for i := range len(s) {
		value = value*uint32(radix) + uint32(digit(s[i]))
		power *= uint32(radix)
	}
	return value, power
}
