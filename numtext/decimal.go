package numtext

import (
	"math"
	"strings"

	"quill/bignum"
)

// decimal is a decimal's digits ahead of the point and behind it, and its
// exponent.
type decimal struct {
	whole, fraction string
	exponent        int
}

// cutDecimal is the longest decimal at s's beginning, and what stands behind it;
// false: there is none.
func cutDecimal(s string) (decimal, string, bool) {
	var d decimal
	d.whole, s = cutDigits(s, 10)
	if behind, ok := strings.CutPrefix(s, "."); ok {
		fraction, rest := cutDigits(behind, 10)
		if d.whole != "" || fraction != "" {
			d.fraction, s = fraction, rest
		}
	}
	if d.whole == "" && d.fraction == "" {
		return decimal{}, "", false
	}
	if exponent, rest, ok := cutExponent(s); ok {
		d.exponent, s = exponent, rest
	}
	return d, s, true
}

// cutExponent is the exponent at s's beginning, and what stands behind it; false:
// there is none.
func cutExponent(s string) (int, string, bool) {
	if s == "" || s[0] != 'e' && s[0] != 'E' {
		return 0, "", false
	}
	sign, s := cutSign(s[1:])
	found, rest := cutDigits(s, 10)
	if found == "" {
		return 0, "", false
	}
	return int(sign) * amount(found), rest, true
}

// amount is the number of digits, or one that is so great that no digits, as many
// as a text may have, can make up for it in an exponent.
func amount(found string) int {
	const enough = 1 << 40
	n := 0
	for i := range len(found) {
		if n < enough {
			n = 10*n + int(found[i]-'0')
		}
	}
	return n
}

// float is the float nearest to a decimal.
func (d decimal) float() float64 {
	const (
		most  = 309  // 10^309 is above all floats
		least = -323 // half of the least float is above 10^-324
		kept  = 800  // digits: no number half way between two floats has more than 768
	)
	found := strings.TrimLeft(d.whole+d.fraction, "0")
	point := len(found) - len(d.fraction) + d.exponent
	found = strings.TrimRight(found, "0")
	switch {
	case found == "" || point < least:
		return 0
	case point > most:
		return math.Inf(1)
	case len(found) > kept:
		// What is cut off is above 0: it counts as a 1 does.
		found = found[:kept] + "1"
	}
	m, _ := bignum.Parse(found, 10)
	return nearest(m, point-len(found))
}
