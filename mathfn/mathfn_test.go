package mathfn_test

import (
	"math"
	"slices"
	"testing"

	"quill/api"
	"quill/mathfn"
	"quill/number"
)

// none is the NaN that is told, minus0 the nought with a sign.
var (
	none   = math.Float64frombits(0x7FF8000000000000)
	minus0 = math.Copysign(0, -1)
	inf    = math.Inf(1)
)

// The constants as the chapter has them.
var (
	pi       = bits(0x400921FB54442D18)
	pi2      = bits(0x3FF921FB54442D18)
	pi4      = bits(0x3FE921FB54442D18)
	pi34     = bits(0x4002D97C7F3321D2)
	twoPi    = bits(0x401921FB54442D18)
	invPi2   = bits(0x3FE45F306DC9C883)
	halfHigh = bits(0x3FF921FB54400000)
	halfLow  = bits(0x3DD0B4611A626331)
	invLn2   = bits(0x3FF71547652B82FE)
	ln2High  = bits(0x3FE62E42FEE00000)
	ln2Low   = bits(0x3DEA39EF35793C76)
)

func bits(b uint64) float64 { return math.Float64frombits(b) }

// same tells whether two floats have the same bits.
func same(x, y float64) bool { return math.Float64bits(x) == math.Float64bits(y) }

// nans are NaNs of many bits.
func nans() []float64 {
	return []float64{none, bits(0x7FF8000000000001), bits(0x7FF0000000000001), bits(0xFFF8000000000000), bits(0xFFF0000000000001), bits(0x7FFFFFFFFFFFFFFF), bits(0xFFFFFFFFFFFFFFFF)}
}

// draws tells numbers one after the other that look like chance, the same each time.
func draws() func() uint64 {
	state := uint64(5)
	return func() uint64 {
		state += 0x9E3779B97F4A7C15
		z := (state ^ state>>30) * 0xBF58476D1CE4E5B9
		z = (z ^ z>>27) * 0x94D049BB133111EB
		return z ^ z>>31
	}
}

// between tells n numbers from -amount to amount.
func between(n int, amount float64) []float64 {
	draw := draws()
	l := make([]float64, n)
	for i := range l {
		l[i] = amount * float64(int64(draw())) / (1 << 63)
	}
	return l
}

// spread tells n numbers above 0 whose logarithms lie evenly, from 10^-300 to 10^300.
func spread(n int) []float64 {
	var l []float64
	for _, x := range between(n, 300) {
		l = append(l, math.Pow(10, x))
	}
	return l
}

// nearby tells n numbers about x, from a 10^-16th to a 10^-6th part off.
func nearby(n int, x float64) []float64 {
	var l []float64
	for _, d := range between(n, 10) {
		l = append(l, x+math.Copysign(x*math.Pow(10, math.Abs(d)-16), d))
	}
	return l
}

// edges are floats at which something is told otherwise or another way begins, with
// their neighbours, of both signs.
func edges() []float64 {
	l := []float64{inf, -inf}
	for _, x := range []float64{
		0, 5e-324, math.Ldexp(1, -1022), 1e-300, 1e-17, 1e-8, 0.1, 0.25, 1.0 / 3, 0.41421356237309503, 0.5, 0.7071067811865476, 1, 1.4142135623730951, 1.5, 2, 2.414213562373095, 2.5, 3, 10, 33,
		math.Ln2 / 2, math.Ln2, pi4, pi2, pi34, pi, 3 * pi2, twoPi, 355, 700, 709.78, 710, 744.5, 745.14, 746, 1023, 1024, 1025, 1074, 1 << 20, 1<<20 + 1, 1e6, 1 << 21, 1 << 32, 1 << 52, 1 << 53, 1 << 54, 1e22, 1e300, math.MaxFloat64,
	} {
		for _, y := range []float64{x, math.Nextafter(x, inf), math.Nextafter(x, -inf)} {
			l = append(l, y, -y)
		}
	}
	return l
}

// anyFloats are floats of all kinds.
func anyFloats(n int) []float64 {
	draw := draws()
	l := slices.Concat(edges(), nans(), between(n, 1), between(n, 800), between(n, 1<<21), spread(n))
	for range n {
		l = append(l, bits(draw()), float64(int64(draw()%3000)-1500), float64(int64(draw()%3000)-1500)*pi4)
	}
	return l
}

// function is one that makes a float of a float.
type function struct {
	name string
	call func(float64) float64
}

func functions() []function {
	return []function{{"Exp", mathfn.Exp}, {"Log", mathfn.Log}, {"Sin", mathfn.Sin}, {"Cos", mathfn.Cos}, {"Tan", mathfn.Tan}, {"Atan", mathfn.Atan}, {"Asin", mathfn.Asin}, {"Acos", mathfn.Acos}}
}

func (f function) one(t *testing.T, x, want float64) {
	t.Helper()
	if got := f.call(x); !same(got, want) {
		t.Errorf("%s(%v): %v (%x), want %v (%x)", f.name, x, got, math.Float64bits(got), want, math.Float64bits(want))
	}
}

// row is what such a function makes of x.
type row struct{ x, want float64 }

func (f function) rows(t *testing.T, rows []row) {
	t.Helper()
	for _, r := range rows {
		f.one(t, r.x, r.want)
	}
}

// nothing holds that of each NaN the one is told.
func (f function) nothing(t *testing.T) {
	t.Helper()
	for _, x := range nans() {
		f.one(t, x, none)
	}
}

// function2 is one that makes a float of two.
type function2 struct {
	name string
	call func(x, y float64) float64
}

func functions2() []function2 {
	return []function2{{"Atan2", mathfn.Atan2}, {"Pow", mathfn.Pow}}
}

func (f function2) one(t *testing.T, x, y, want float64) {
	t.Helper()
	if got := f.call(x, y); !same(got, want) {
		t.Errorf("%s(%v, %v): %v (%x), want %v (%x)", f.name, x, y, got, math.Float64bits(got), want, math.Float64bits(want))
	}
}

// row2 is what such a function makes of x and y.
type row2 struct{ x, y, want float64 }

func (f function2) rows(t *testing.T, rows []row2) {
	t.Helper()
	for _, r := range rows {
		f.one(t, r.x, r.y, r.want)
	}
}

// The steps of the ways, each by layer 4, which joins none with another.

func reckoned(op string, x, y float64) float64 {
	z, errno := number.Binary(op, x, y)
	if errno != api.OK {
		panic(op)
	}
	return z
}

func plus(x, y float64) float64  { return reckoned("+", x, y) }
func minus(x, y float64) float64 { return reckoned("-", x, y) }
func times(x, y float64) float64 { return reckoned("*", x, y) }
func over(x, y float64) float64  { return reckoned("/", x, y) }
