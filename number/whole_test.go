package number_test

import (
	"math"
	"math/big"
	"slices"
	"testing"

	"quill/number"
)

func TestNu1Integer(t *testing.T) {
	f := function{"Integer", number.Integer}
	f.check(t, []floatRow{
		{0, 0}, {minus0(), minus0()}, {math.Inf(1), math.Inf(1)}, {math.Inf(-1), math.Inf(-1)},
		{0.5, 0}, {-0.5, minus0()}, {0.9999999999999999, 0}, {-0.9999999999999999, minus0()}, {5e-324, 0}, {-5e-324, minus0()},
		{1, 1}, {-1, -1}, {1.5, 1}, {-1.5, -1}, {2.9, 2}, {-2.9, -2}, {1<<52 - 0.5, 1<<52 - 1}, {-1<<52 + 0.5, -1<<52 + 1},
		{1 << 53, 1 << 53}, {1e300, 1e300}, {-math.MaxFloat64, -math.MaxFloat64},
	})
	for _, x := range nans() {
		check(t, "Integer", x, number.Integer(x), 0)
	}
	for _, x := range finite(3000) {
		check(t, "Integer", x, number.Integer(x), whole(towards0(exact(x)), x))
	}
}

func checkBits(t *testing.T, x float64, want uint32) {
	t.Helper()
	if n := number.Uint32(x); n != want {
		t.Errorf("Uint32(%v): %d, want %d", x, n, want)
	}
	signed := int64(want)
	if signed >= 1<<31 {
		signed -= 1 << 32
	}
	if n := number.Int32(x); int64(n) != signed {
		t.Errorf("Int32(%v): %d, want %d", x, n, signed)
	}
	if n := number.Uint16(x); uint32(n) != want%(1<<16) {
		t.Errorf("Uint16(%v): %d, want %d", x, n, want%(1<<16))
	}
}

func TestNu1Bits(t *testing.T) {
	for _, row := range []struct {
		x    float64
		want uint32
	}{
		{0, 0}, {minus0(), 0}, {math.Inf(1), 0}, {math.Inf(-1), 0}, {0.9, 0}, {-0.9, 0}, {1, 1}, {-1, 0xFFFFFFFF}, {-1.9, 0xFFFFFFFF}, {65535, 65535}, {65536, 65536}, {65537.5, 65537},
		{1<<31 - 1, 1<<31 - 1}, {1 << 31, 1 << 31}, {-1 << 31, 1 << 31}, {-1<<31 - 1, 1<<31 - 1}, {1<<32 - 1, 0xFFFFFFFF}, {1<<32 - 0.5, 0xFFFFFFFF},
		{1 << 32, 0}, {-1 << 32, 0}, {1<<32 + 0.5, 0}, {-1<<32 - 1.5, 0xFFFFFFFF}, {1<<32 + 1, 1}, {1 << 63, 0}, {1<<63 + 1<<11, 1 << 11}, {-1<<63 - 1<<11, 1<<32 - 1<<11},
		{1 << 64, 0}, {1<<83 + 1<<31, 1 << 31}, {1 << 84, 0}, {-1<<83 - 1<<31, 1 << 31}, {1e300, 0}, {-1e300, 0}, {math.MaxFloat64, 0}, {5e-324, 0}, {-5e-324, 0},
	} {
		checkBits(t, row.x, row.want)
	}
	for _, x := range nans() {
		checkBits(t, x, 0)
	}
	for _, x := range finite(5000) {
		checkBits(t, x, wrapped(x))
	}
	// Whole numbers of all sizes, odd ones in the 53rd bit.
	draw := draws()
	for e := range 120 {
		for range 20 {
			x := math.Ldexp(float64(draw()>>11|1), e-40)
			checkBits(t, x, wrapped(x))
			checkBits(t, -x, wrapped(-x))
		}
	}
}

// place is Place by the library's whole numbers; x is finite.
func place(x float64, least, most int) int {
	n := towards0(exact(x))
	if lower := big.NewInt(int64(least)); n.Cmp(lower) < 0 {
		n = lower
	}
	if upper := big.NewInt(int64(most)); n.Cmp(upper) > 0 {
		n = upper
	}
	return int(n.Int64())
}

func TestNu1Place(t *testing.T) {
	for _, row := range []struct {
		x           float64
		least, most int
		want        int
	}{
		{0, 0, 10, 0}, {minus0(), 0, 10, 0}, {math.NaN(), -5, 10, 0}, {math.NaN(), 3, 10, 3}, {math.NaN(), -10, -3, -3}, {3.9, 0, 10, 3}, {-3.9, -10, 10, -3}, {-0.9, 0, 10, 0}, {-1, 0, 10, 0}, {-0.5, -1, 10, 0},
		{9.9, 0, 10, 9}, {10, 0, 10, 10}, {10.9, 0, 10, 10}, {11, 0, 10, 10}, {math.Inf(1), 0, 10, 10}, {math.Inf(-1), 0, 10, 0}, {5, 7, 7, 7},
		{5, 10, 0, 0}, {-5, 10, 0, 0}, {15, 10, 0, 0}, {math.Inf(1), 10, 0, 0}, {math.Inf(-1), 10, 0, 0}, {math.NaN(), 10, 5, 5}, {5, math.MaxInt, math.MinInt, math.MinInt},
		{1e300, math.MinInt, math.MaxInt, math.MaxInt}, {-1e300, math.MinInt, math.MaxInt, math.MinInt}, {math.Inf(1), math.MinInt, math.MaxInt, math.MaxInt}, {math.Inf(-1), math.MinInt, math.MaxInt, math.MinInt},
		{1 << 53, 0, 1<<53 - 1, 1<<53 - 1}, {1 << 53, 1<<53 + 1, math.MaxInt, 1<<53 + 1}, {1<<53 + 2, 0, 1<<53 + 1, 1<<53 + 1}, {1 << 62, 0, 1<<62 - 1, 1<<62 - 1}, {1 << 62, 1<<62 + 1, math.MaxInt, 1<<62 + 1},
		{1 << 63, 0, math.MaxInt, math.MaxInt}, {1 << 63, 0, math.MaxInt - 1, math.MaxInt - 1}, {-1 << 63, math.MinInt, 0, math.MinInt}, {-1 << 63, math.MinInt + 1, 0, math.MinInt + 1},
	} {
		if n := number.Place(row.x, row.least, row.most); n != row.want {
			t.Errorf("Place(%v, %d, %d): %d, want %d", row.x, row.least, row.most, n, row.want)
		}
	}
	bounds := []int{math.MinInt, math.MinInt + 1, -1<<53 - 1, -1 << 32, -3, -1, 0, 1, 2, 5, 1<<31 - 1, 1 << 31, 1<<53 + 1, 1<<62 + 1, math.MaxInt - 1, math.MaxInt}
	for _, x := range finite(30) {
		for _, least := range bounds {
			for _, most := range bounds {
				if n, want := number.Place(x, least, most), place(x, least, most); n != want {
					t.Errorf("Place(%v, %d, %d): %d, want %d", x, least, most, n, want)
				}
			}
		}
	}
}

func TestNu1Index(t *testing.T) {
	for _, row := range []struct {
		x    float64
		want uint32
	}{{0, 0}, {minus0(), 0}, {1, 1}, {2, 2}, {100, 100}, {1<<31 - 1, 1<<31 - 1}, {1 << 31, 1 << 31}, {1<<32 - 3, 1<<32 - 3}, {1<<32 - 2, 1<<32 - 2}} {
		if n, ok := number.Index(row.x); n != row.want || !ok {
			t.Errorf("Index(%v): %d, %v", row.x, n, ok)
		}
	}
	wrong := []float64{
		-1, 0.5, -0.5, 1.5, 5e-324, -5e-324, 0.9999999999999999, 1<<32 - 1, 1<<32 - 1.5, 1<<32 - 2.5, math.Nextafter(1<<32-2, 0), math.Nextafter(1<<32-2, 1<<33),
		1 << 32, 1<<32 + 1, 1 << 33, -1 << 32, 1<<32 + 5, -1 << 31, 1 << 53, 1 << 64, 1e300, -1e300, math.Inf(1), math.Inf(-1),
	}
	for _, x := range slices.Concat(wrong, nans()) {
		if n, ok := number.Index(x); n != 0 || ok {
			t.Errorf("Index(%v): %d, %v", x, n, ok)
		}
	}
	most := big.NewRat(1<<32-2, 1)
	for _, x := range finite(3000) {
		r := exact(x)
		want := r.IsInt() && r.Sign() >= 0 && r.Cmp(most) <= 0
		n, ok := number.Index(x)
		if ok != want || ok && float64(n) != x || !ok && n != 0 {
			t.Errorf("Index(%v): %d, %v", x, n, ok)
		}
	}
}

func TestNu4FloorAndCeil(t *testing.T) {
	floors, ceils := function{"Floor", number.Floor}, function{"Ceil", number.Ceil}
	floors.check(t, []floatRow{
		{0, 0}, {minus0(), minus0()}, {math.Inf(1), math.Inf(1)}, {math.Inf(-1), math.Inf(-1)}, {0.5, 0}, {-0.5, -1}, {5e-324, 0}, {-5e-324, -1},
		{1.5, 1}, {-1.5, -2}, {2, 2}, {-2, -2}, {0.9999999999999999, 0}, {-0.9999999999999999, -1}, {1<<52 - 0.5, 1<<52 - 1}, {-1<<52 + 0.5, -1 << 52}, {1e300, 1e300},
	})
	ceils.check(t, []floatRow{
		{0, 0}, {minus0(), minus0()}, {math.Inf(1), math.Inf(1)}, {math.Inf(-1), math.Inf(-1)}, {0.5, 1}, {-0.5, minus0()}, {5e-324, 1}, {-5e-324, minus0()},
		{1.5, 2}, {-1.5, -1}, {2, 2}, {-2, -2}, {0.9999999999999999, 1}, {-0.9999999999999999, minus0()}, {1<<52 - 0.5, 1 << 52}, {-1<<52 + 0.5, -1<<52 + 1}, {-1e300, -1e300},
	})
	for _, x := range nans() {
		check(t, "Floor", x, number.Floor(x), none())
		check(t, "Ceil", x, number.Ceil(x), none())
	}
	for _, x := range finite(3000) {
		check(t, "Floor", x, number.Floor(x), whole(floor(exact(x)), x))
		up := floor(exact(-x))
		check(t, "Ceil", x, number.Ceil(x), whole(up.Neg(up), x))
	}
}

func TestNu4Round(t *testing.T) {
	f := function{"Round", number.Round}
	f.check(t, []floatRow{
		{0, 0}, {minus0(), minus0()}, {math.Inf(1), math.Inf(1)}, {math.Inf(-1), math.Inf(-1)},
		{-0.5, minus0()}, {-0.25, minus0()}, {-5e-324, minus0()}, {-0.49999999999999994, minus0()}, {-0.5000000000000001, -1},
		{5e-324, 0}, {0.25, 0}, {0.49999999999999994, 0}, {0.5, 1}, {0.5000000000000001, 1}, {0.9999999999999999, 1}, {-0.9999999999999999, -1},
		{1.4, 1}, {1.5, 2}, {1.4999999999999998, 1}, {2.5, 3}, {-1.5, -1}, {-2.5, -2}, {-2.5000000000000004, -3}, {-3.5, -3}, {3.5, 4},
		{1<<51 + 0.5, 1<<51 + 1}, {1<<52 - 0.5, 1 << 52}, {-1<<52 + 0.5, -1<<52 + 1}, {1<<52 + 1, 1<<52 + 1}, {-1<<52 - 1, -1<<52 - 1}, {1<<53 - 1, 1<<53 - 1}, {1<<53 + 2, 1<<53 + 2}, {1e300, 1e300}, {-1e300, -1e300},
	})
	for _, x := range nans() {
		check(t, "Round", x, number.Round(x), none())
	}
	for _, x := range finite(3000) {
		half := new(big.Rat).Add(exact(x), big.NewRat(1, 2))
		check(t, "Round", x, number.Round(x), whole(floor(half), x))
	}
}
