package mathfn

import (
	"math"

	"quill/number"
)

// turn is an angle's whole quarters of a turn (0 to 3), and the sine and the
// cosine of what it is beyond them.
type turn struct {
	quarter   int
	sine, cos float64
}

// turned is a finite angle as a turn.
func turned(x float64) turn {
	if number.Abs(x) > 1<<20 {
		// No error comes: `%` is an operator.
		x, _ = number.Binary("%", x, twoPi.float())
	}
	q := number.Floor(times(x, invPi2.float()) + 0.5)
	r := (x - times(q, halfHigh.float())) - times(q, halfLow.float())
	z := times(r, r)
	return turn{int(q) & 3, times(r, series(z, 1)), series(z, -1)}
}

// series is the sum that a sine is times its angle (beside is 1), or the one that
// a cosine is (beside is -1), z the angle's square.
func series(z float64, beside int) float64 {
	p := 1.0
	for i := 10; i >= 1; i-- {
		p = 1 - times(z, p)/float64(2*i*(2*i+beside))
	}
	return p
}

// angled tells whether a number is an angle: no NaN and no infinity.
func angled(x float64) bool { return !math.IsNaN(x) && !math.IsInf(x, 0) }

// Sin is a number's sine.
func Sin(x float64) float64 {
	switch {
	case !angled(x):
		return nan.float()
	case x == 0:
		return x
	}
	t := turned(x)
	return [4]float64{t.sine, t.cos, -t.sine, -t.cos}[t.quarter]
}

// Cos is a number's cosine.
func Cos(x float64) float64 {
	if !angled(x) {
		return nan.float()
	}
	t := turned(x)
	return [4]float64{t.cos, -t.sine, -t.cos, t.sine}[t.quarter]
}

// Tan is a number's tangent.
func Tan(x float64) float64 {
	switch {
	case !angled(x):
		return nan.float()
	case x == 0:
		return x
	}
	t := turned(x)
	return [2]float64{t.sine / t.cos, -t.cos / t.sine}[t.quarter%2]
}

// Atan is the angle of a tangent.
func Atan(x float64) float64 {
	switch {
	case math.IsNaN(x):
		return nan.float()
	case x == 0:
		return x
	}
	b, y := nearer(number.Abs(x))
	z := times(y, y)
	p := 0.0
	for i := 39; i >= 1; i -= 2 {
		p = 1/float64(i) - times(z, p)
	}
	return math.Copysign(b+times(y, p), x)
}

// nearer is an angle, and the tangent of what the angle of the tangent a is beyond
// it.
func nearer(a float64) (b, y float64) {
	switch {
	case a > 2.414213562373095:
		return pi2.float(), -1 / a
	case a > 0.41421356237309503:
		return pi4.float(), (a - 1) / (a + 1)
	}
	return 0, a
}

// Atan2 is the angle of a point.
func Atan2(y, x float64) float64 {
	if math.IsNaN(y) || math.IsNaN(x) {
		return nan.float()
	}
	return math.Copysign(above(number.Abs(y), number.Abs(x), math.Signbit(x)), y)
}

// above is the angle of a point that is not below the axis, of the amounts of its
// places; left tells whether x's sign is set.
func above(y, x float64, left bool) float64 {
	tall, wide := math.IsInf(y, 0), math.IsInf(x, 0)
	angle := 0.0
	switch {
	case y == 0:
	case x == 0 || tall && !wide:
		return pi2.float()
	case tall && left:
		return pi34.float()
	case tall:
		return pi4.float()
	case !wide:
		angle = Atan(y / x)
	}
	if left {
		return pi.float() - angle
	}
	return angle
}

// leg is the other short side of the triangle with a right angle whose long side
// is 1 and whose one short side is x.
func leg(x float64) float64 { return number.Sqrt(times(1-x, 1+x)) }

// Asin is the angle of a sine.
func Asin(x float64) float64 {
	switch {
	case math.IsNaN(x) || number.Abs(x) > 1:
		return nan.float()
	case x == 0:
		return x
	}
	return Atan2(x, leg(x))
}

// Acos is the angle of a cosine.
func Acos(x float64) float64 {
	if math.IsNaN(x) || number.Abs(x) > 1 {
		return nan.float()
	}
	return Atan2(leg(x), x)
}
