package mathfn

import (
	"math"

	"quill/number"
)

// Exp is e to a number.
func Exp(x float64) float64 {
	switch {
	case math.IsNaN(x):
		return nan.float()
	case x > 710:
		return math.Inf(1)
	case x < -746:
		return 0
	}
	k := number.Floor(times(x, invLn2.float()) + 0.5)
	r := (x - times(k, ln2High.float())) - times(k, ln2Low.float())
	p := 1.0
	for i := 14; i >= 1; i-- {
		p = 1 + times(p, r)/float64(i)
	}
	return math.Ldexp(p, int(k))
}

// Log is the natural logarithm of a number.
func Log(x float64) float64 {
	switch {
	case math.IsNaN(x) || x < 0:
		return nan.float()
	case x == 0:
		return math.Inf(-1)
	case math.IsInf(x, 1):
		return x
	}
	f, e := math.Frexp(x)
	if f < 0.7071067811865476 {
		f, e = 2*f, e-1
	}
	s := (f - 1) / (f + 1)
	z := times(s, s)
	p := 1.0 / 25
	for i := 23; i >= 1; i -= 2 {
		p = times(p, z) + 1/float64(i)
	}
	twos := float64(e)
	return times(twos, ln2High.float()) + (times(s+s, p) + times(twos, ln2Low.float()))
}

// Pow is a power.
func Pow(x, y float64) float64 {
	a := number.Abs(x)
	switch {
	case y == 0:
		return 1
	case math.IsNaN(x) || math.IsNaN(y):
		return nan.float()
	case math.IsInf(y, 0):
		return endless(a, y)
	case x < 0 && !math.IsInf(x, 0) && !whole(y):
		return nan.float()
	}
	r := amount(a, y)
	if math.Signbit(x) && odd(y) {
		return -r
	}
	return r
}

// endless is a power of an amount, one of both an infinity or the amount a nought.
func endless(a, y float64) float64 {
	switch {
	case a == 1:
		return nan.float()
	case (a > 1) == (y > 0):
		return math.Inf(1)
	}
	return 0
}

// amount is a power of an amount to a finite number that is no nought.
func amount(a, y float64) float64 {
	switch {
	case math.IsInf(a, 0) || a == 0:
		return endless(a, y)
	case !whole(y) || number.Abs(y) > 1024:
		return Exp(times(y, Log(a)))
	case y < 0:
		return 1 / squared(a, int(-y))
	}
	return squared(a, int(y))
}

// squared is a power by squares.
func squared(a float64, n int) float64 {
	r := 1.0
	for b := a; n > 0; n /= 2 {
		if n%2 == 1 {
			r = times(r, b)
		}
		b = times(b, b)
	}
	return r
}

func whole(x float64) bool { return number.Floor(x) == x }

// odd needs not ask for 2^53: from there on the half of each float is whole.
func odd(x float64) bool { return whole(x) && !whole(x/2) }
