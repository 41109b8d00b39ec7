package bignum_test

import (
	"math"
	"math/big"
	"testing"

	"quill/api"
	"quill/bignum"
)

// checkFloat holds a natural's float against that of the library.
func checkFloat(t *testing.T, x *big.Int) {
	t.Helper()
	want, _ := new(big.Float).SetInt(x).Float64()
	if got := bignum.Float(natural(x)); math.Float64bits(got) != math.Float64bits(want) {
		t.Errorf("Float(%x): %v, want %v", natural(x), got, want)
	}
}

// Near each place at which a float's last bit, or half of it, stands; a bit far
// below says of two as near which one is nearer.
func TestBn5FloatNear(t *testing.T) {
	for n := 50; n <= 1100; n++ {
		for _, head := range []int64{1, 3} {
			x := new(big.Int).Mul(power(n), big.NewInt(head))
			for behind := 51; behind <= 54; behind++ {
				bit := power(max(n-behind, 0))
				for _, y := range []*big.Int{new(big.Int).Add(x, bit), new(big.Int).Sub(x, bit)} {
					checkFloat(t, y)
					checkFloat(t, new(big.Int).Add(y, big.NewInt(1)))
					checkFloat(t, new(big.Int).Sub(y, big.NewInt(1)))
					checkFloat(t, new(big.Int).Add(y, power(n-50)))
				}
			}
			checkFloat(t, x)
		}
	}
}

func TestBn5Float(t *testing.T) {
	for _, a := range lists(edges(), 4) {
		checkFloat(t, amount(a))
	}
	draw := draws()
	for n := range 40 {
		for range 20 {
			checkFloat(t, amount(drawn(draw, n)))
		}
	}
	if x := bignum.Float(bignum.Of(1<<53 + 1)); x != 1<<53 {
		t.Errorf("Float of 2^53 and 1: %v", x)
	}
	if x := bignum.Float(bignum.Of(1<<53 + 3)); x != 1<<53+4 {
		t.Errorf("Float of 2^53 and 3: %v", x)
	}
	if x := bignum.Float(nil); x != 0 || math.Signbit(x) {
		t.Errorf("Float of 0: %v", x)
	}
	if x := bignum.Float(append([]uint32{7}, make([]uint32, 2*api.MaxWords)...)); x != 7 {
		t.Errorf("Float of words of 0: %v", x)
	}
}

func TestBn5FloatGreat(t *testing.T) {
	bound := new(big.Int).Sub(power(1024), power(970))
	below := new(big.Int).Sub(bound, big.NewInt(1))
	if x := bignum.Float(natural(below)); x != math.MaxFloat64 {
		t.Errorf("Float below the bound: %v", x)
	}
	for _, a := range [][]uint32{
		natural(bound), natural(new(big.Int).Add(bound, big.NewInt(1))), natural(power(1024)), full(33),
		full(api.MaxWords), full(api.MaxWords + 1), top(100 * api.MaxWords), append(top(3*api.MaxWords), 0),
	} {
		if x := bignum.Float(a); !math.IsInf(x, 1) {
			t.Errorf("Float of %d words: %v", len(a), x)
		}
	}
}

// checkParts holds a float's parts against the float. x is finite, and above 0.
func checkParts(t *testing.T, x float64) {
	t.Helper()
	m, e, errno := bignum.Parts(x)
	if errno != api.OK || len(m) == 0 || m[0]&1 == 0 || m[len(m)-1] == 0 {
		t.Fatalf("Parts(%v): %x, %d, error %d", x, m, e, errno)
	}
	got := new(big.Float).SetMantExp(new(big.Float).SetInt(amount(m)), e)
	if got.Cmp(new(big.Float).SetFloat64(x)) != 0 {
		t.Errorf("Parts(%v): %x, %d", x, m, e)
	}
}

func TestBn5Parts(t *testing.T) {
	for n := -1074; n <= 1023; n++ {
		x := math.Ldexp(1, n)
		checkParts(t, x)
		checkParts(t, math.Nextafter(x, math.Inf(1)))
		if n > -1070 {
			checkParts(t, math.Nextafter(x, 0))
			checkParts(t, math.Ldexp(0.1, n))
		}
	}
	checkParts(t, math.MaxFloat64)
	draw := draws()
	for range 5000 {
		x := math.Float64frombits(uint64(draw()>>1)<<32 | uint64(draw()))
		if !math.IsNaN(x) && !math.IsInf(x, 0) && x != 0 {
			checkParts(t, x)
		}
	}
}

func TestBn5PartsEdges(t *testing.T) {
	rows := []struct {
		x float64
		m uint64
		e int
	}{
		{0.75, 3, -2}, {0, 0, 0}, {math.Copysign(0, -1), 0, 0}, {1, 1, 0}, {10, 5, 1}, {1 << 60, 1, 60},
		{math.SmallestNonzeroFloat64, 1, -1074}, {0x1p-1022, 1, -1022}, {0x1.8p-1022, 3, -1023},
		{math.MaxFloat64, 1<<53 - 1, 971}, {0x0.fffffffffffffp-1022, 1<<52 - 1, -1074}, {1<<53 - 1, 1<<53 - 1, 0},
	}
	for _, row := range rows {
		m, e, errno := bignum.Parts(row.x)
		check(t, "Parts", m, errno, bignum.Of(row.m))
		if e != row.e {
			t.Errorf("Parts(%v): power %d, want %d", row.x, e, row.e)
		}
	}
	for _, x := range []float64{math.NaN(), math.Inf(1), math.Inf(-1), -1, -math.SmallestNonzeroFloat64, -math.MaxFloat64, math.Float64frombits(0xFFF0000000000001)} {
		m, e, errno := bignum.Parts(x)
		refused(t, "Parts", m, errno, api.ErrArg)
		if e != 0 {
			t.Errorf("Parts(%v): power %d beside an error", x, e)
		}
	}
}
