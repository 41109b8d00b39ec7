package numtext

import (
	"math"
	"strings"

	"quill/bignum"
	"quill/ustr"
)

const (
	allDigits = "0123456789abcdefghijklmnopqrstuvwxyz"
	infinity  = "Infinity"
)

// nan is the NaN that is told: that of the library has other bits.
func nan() float64 { return math.Float64frombits(0x7FF8000000000000) }

// Number is a text's number.
func Number(s string) float64 {
	t := narrow(ustr.Trim(s))
	if t == "" {
		return 0
	}
	if x, ok := hexadecimal(t); ok {
		return x
	}
	if x, rest, ok := number(t); ok && rest == "" {
		return x
	}
	return nan()
}

// Literal is the number of a literal; false: it is none.
func Literal(s string) (float64, bool) {
	t := narrow(s)
	if x, ok := hexadecimal(t); ok {
		return x, true
	}
	d, rest, ok := cutDecimal(t)
	if !ok || rest != "" || len(d.whole) > 1 && d.whole[0] == '0' {
		return 0, false
	}
	return d.float(), true
}

// Float is the number at the beginning of a text.
func Float(s string) float64 {
	if x, _, ok := number(narrow(trimStart(s))); ok {
		return x
	}
	return nan()
}

// Int is the whole number of a radix at the beginning of a text.
func Int(s string, radix int) float64 {
	sign, t := cutSign(narrow(trimStart(s)))
	if radix == 0 || radix == 16 {
		if rest, ok := cutHex(t); ok {
			radix, t = 16, rest
		}
	}
	if radix == 0 {
		radix = 10
	}
	if radix < 2 || radix > 36 {
		return nan()
	}
	found, _ := cutDigits(strings.ToLower(t), radix)
	if found == "" {
		return nan()
	}
	return math.Copysign(whole(found, radix), sign)
}

// trimStart is a text without white space at its beginning.
func trimStart(s string) string {
	for i := range ustr.Len(s) {
		if u, _ := ustr.Unit(s, i); !ustr.Space(u) && !ustr.Ends(u) {
			return ustr.Slice(s, i, ustr.Len(s))
		}
	}
	return ""
}

// narrow is a text as ASCII; what is beyond it becomes a byte that stands in no
// number.
func narrow(s string) string {
	var b strings.Builder
	b.Grow(ustr.Len(s))
	for _, u := range ustr.Units(s) {
		if u > 0x7F {
			u = 0
		}
		b.WriteByte(byte(u))
	}
	return b.String()
}

// cutSign is 1 or -1 by the sign at s's beginning, if one is there, and what
// stands behind it.
func cutSign(s string) (float64, string) {
	if rest, ok := strings.CutPrefix(s, "-"); ok {
		return -1, rest
	}
	return 1, strings.TrimPrefix(s, "+")
}

// cutHex is what stands behind the mark of a hexadecimal; false: it is not there.
func cutHex(s string) (string, bool) {
	if rest, ok := strings.CutPrefix(s, "0x"); ok {
		return rest, true
	}
	return strings.CutPrefix(s, "0X")
}

// cutDigits is the digits at s's beginning, small letters among them, and what
// stands behind them.
func cutDigits(s string, radix int) (string, string) {
	rest := strings.TrimLeft(s, allDigits[:radix])
	return s[:len(s)-len(rest)], rest
}

// hexadecimal is a hexadecimal's float; false: s is none.
func hexadecimal(s string) (float64, bool) {
	s, ok := cutHex(s)
	if !ok {
		return 0, false
	}
	found, rest := cutDigits(strings.ToLower(s), 16)
	if found == "" || rest != "" {
		return 0, false
	}
	return whole(found, 16), true
}

// whole is the float nearest to the number of digits.
func whole(found string, radix int) float64 {
	const most = 1024 // bits of a number whose float is finite; a digit is one at least
	if len(strings.TrimLeft(found, "0")) > most {
		return math.Inf(1)
	}
	a, _ := bignum.Parse(found, radix)
	return bignum.Float(a)
}

// number is the number at s's beginning, a decimal or the infinity, with a sign
// or none, and what stands behind it; false: there is none.
func number(s string) (float64, string, bool) {
	sign, s := cutSign(s)
	if rest, ok := strings.CutPrefix(s, infinity); ok {
		return math.Copysign(math.Inf(1), sign), rest, true
	}
	d, rest, ok := cutDecimal(s)
	if !ok {
		return 0, "", false
	}
	return math.Copysign(d.float(), sign), rest, true
}
