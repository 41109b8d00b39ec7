package number_test

import (
	"math"
	"math/big"
	"slices"
	"testing"
)

// The NaN that is told has these bits.
const nan = 0x7FF8000000000000

func none() float64 { return math.Float64frombits(nan) }

// minus0 is the nought with a sign.
func minus0() float64 { return math.Copysign(0, -1) }

// same tells whether two floats have the same bits.
func same(x, y float64) bool { return math.Float64bits(x) == math.Float64bits(y) }

// nans are NaNs of many bits.
func nans() []float64 {
	var l []float64
	for _, bits := range []uint64{nan, 0x7FF8000000000001, 0x7FF0000000000001, 0xFFF8000000000000, 0xFFF0000000000001, 0x7FFFFFFFFFFFFFFF, 0xFFFFFFFFFFFFFFFF} {
		l = append(l, math.Float64frombits(bits))
	}
	return l
}

// draws tells numbers one after the other that look like chance, the same each time.
func draws() func() uint64 {
	state := uint64(4)
	return func() uint64 {
		state += 0x9E3779B97F4A7C15
		z := (state ^ state>>30) * 0xBF58476D1CE4E5B9
		z = (z ^ z>>27) * 0x94D049BB133111EB
		return z ^ z>>31
	}
}

// around is x with its neighbours, and all of them with the other sign.
func around(x float64) []float64 {
	l := []float64{x, math.Nextafter(x, math.Inf(1)), math.Nextafter(x, math.Inf(-1))}
	for _, y := range slices.Clone(l) {
		l = append(l, -y)
	}
	return l
}

// edges are finite floats at which something is rounded, wrapped or told otherwise.
func edges() []float64 {
	var l []float64
	for _, x := range []float64{
		0, 0.25, 0.5, 0.75, 1, 1.5, 2, 2.5, 3, 3.5, 4.5, 7, 31, 32, 33, 63, 64, 100.5, 0.1, 0.2, 0.3, 5.5,
		1 << 15, 1 << 16, 1<<16 - 1, 1 << 31, 1<<31 - 0.5, 1<<31 - 1, 1<<31 + 0.5, 1 << 32, 1<<32 - 0.5, 1<<32 - 1, 1<<32 - 2, 1<<32 + 0.5, 1<<32 + 1, 1<<32 + 1.5, 1 << 33, 1<<33 + 5,
		1 << 51, 1<<51 - 0.5, 1 << 52, 1<<52 - 0.5, 1<<52 - 1, 1 << 53, 1<<53 - 1, 1 << 54, 1 << 62, 1 << 63, 1 << 64, 1 << 84, 1<<84 + 1<<32, 1 << 85, 1e21, 1e300,
		math.MaxFloat64, math.MaxFloat64 / 2, math.SmallestNonzeroFloat64, 1.5e-323, math.Ldexp(1, -1022), math.Ldexp(1, -1023), 1e-300, 1e-17, math.Ldexp(1, -53), math.Ldexp(1, -54),
	} {
		for _, y := range around(x) {
			if !math.IsInf(y, 0) {
				l = append(l, y)
			}
		}
	}
	return l
}

// drawn are finite floats of all sizes, and such as have few bits.
func drawn(n int) []float64 {
	draw := draws()
	var l []float64
	for range n {
		if x := math.Float64frombits(draw()); !math.IsNaN(x) && !math.IsInf(x, 0) {
			l = append(l, x)
		}
		l = append(l,
			float64(int64(draw()))/float64(uint64(1)<<(draw()%60)),
			math.Ldexp(float64(int64(draw())), int(draw()%40)-20),
			float64(int64(draw()%2000)-1000)/4,
			float64(int64(draw()%(1<<34))-1<<33)/2)
	}
	return l
}

// finite are floats of both.
func finite(n int) []float64 { return slices.Concat(edges(), drawn(n)) }

// exact is a float as the library's fraction.
func exact(x float64) *big.Rat { return new(big.Rat).SetFloat64(x) }

// towards0 is a fraction without what lies behind its point.
func towards0(x *big.Rat) *big.Int { return new(big.Int).Quo(x.Num(), x.Denom()) }

// floor is a fraction rounded down.
func floor(x *big.Rat) *big.Int { return new(big.Int).Div(x.Num(), x.Denom()) }

// nearest is the float nearest to a fraction; of 0 with the sign of x.
func nearest(r *big.Rat, x float64) float64 {
	if r.Sign() == 0 {
		return math.Copysign(0, x)
	}
	near, _ := r.Float64()
	return near
}

// whole is a whole number as a float; of 0 with the sign of x.
func whole(n *big.Int, x float64) float64 { return nearest(new(big.Rat).SetInt(n), x) }

// wrapped is x modulo 2^32.
func wrapped(x float64) uint32 {
	if math.IsNaN(x) || math.IsInf(x, 0) {
		return 0
	}
	n := towards0(exact(x))
	return uint32(n.Mod(n, big.NewInt(1<<32)).Uint64())
}

// check tells a fault, if a float is not that which is wanted, bit by bit.
func check(t *testing.T, call string, x, got, want float64) {
	t.Helper()
	if !same(got, want) {
		t.Errorf("%s of %v (%x): %v (%x), want %v (%x)", call, x, math.Float64bits(x), got, math.Float64bits(got), want, math.Float64bits(want))
	}
}

// function is one that makes a float of a float.
type function struct {
	name string
	call func(float64) float64
}

// floatRow is what such a function makes of x.
type floatRow struct{ x, want float64 }

func (f function) check(t *testing.T, rows []floatRow) {
	t.Helper()
	for _, row := range rows {
		check(t, f.name, row.x, f.call(row.x), row.want)
	}
}
