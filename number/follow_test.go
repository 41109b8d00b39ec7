package number_test

import (
	"math"
	"math/big"
	"slices"
	"testing"

	"quill/api"
	"quill/number"
)

// made is what an operator makes of two numbers.
func made(t *testing.T, op string, x, y float64) float64 {
	t.Helper()
	z, errno := number.Binary(op, x, y)
	if errno != api.OK {
		t.Errorf("%v %s %v: error %d", x, op, y, errno)
	}
	return z
}

func TestNu5Bits(t *testing.T) {
	for _, x := range slices.Concat(finite(2000), nans(), []float64{math.Inf(1), math.Inf(-1)}) {
		signed, bits := number.Int32(x), number.Uint32(x)
		if uint32(signed) != bits || number.Uint16(x) != uint16(bits) {
			t.Errorf("of %v: %d, %d", x, signed, bits)
		}
		if n := number.Int32(float64(signed)); n != signed {
			t.Errorf("Int32(%d): %d", signed, n)
		}
		if n := number.Uint32(float64(bits)); n != bits {
			t.Errorf("Uint32(%d): %d", bits, n)
		}
		if i, ok := number.Index(float64(bits)); ok != (bits != math.MaxUint32) || ok && i != bits {
			t.Errorf("Index(%d): %d, %v", bits, i, ok)
		}
		if z := made(t, ">>>", x, 0); z != float64(bits) {
			t.Errorf("%v >>> 0: %v", x, z)
		}
		if z := made(t, "|", x, 0); z != float64(signed) {
			t.Errorf("%v | 0: %v", x, z)
		}
	}
}

// `%` leaves less than y's amount; x less that is y times a whole number.
func TestNu5Rest(t *testing.T) {
	l := finite(100)
	for i, x := range l {
		for j := i % 7; j < len(l); j += 7 {
			y := l[j]
			if y == 0 {
				continue
			}
			z := made(t, "%", x, y)
			if !(math.Abs(z) < math.Abs(y)) || math.Signbit(z) != math.Signbit(x) || math.Abs(z) > math.Abs(x) {
				t.Errorf("%v %% %v: %v", x, y, z)
				continue
			}
			times := new(big.Rat).Sub(exact(x), exact(z))
			if !times.Quo(times, exact(y)).IsInt() {
				t.Errorf("%v %% %v: %v", x, y, z)
			}
		}
	}
}

func TestNu5Operators(t *testing.T) {
	draw := draws()
	for range 3000 {
		a, b := int32(draw()), int32(draw())
		x, y := float64(a), float64(b)
		for _, row := range []struct {
			op   string
			want int32
		}{{"&", a & b}, {"|", a | b}, {"^", a ^ b}, {"<<", a << (uint32(b) % 32)}, {">>", a >> (uint32(b) % 32)}} {
			if z := made(t, row.op, x, y); z != float64(row.want) {
				t.Errorf("%d %s %d: %v", a, row.op, b, z)
			}
		}
		if z, errno := number.Unary("~", x); z != float64(^a) || errno != api.OK {
			t.Errorf("~%d: %v", a, z)
		}
		for _, op := range []string{"<<", ">>", ">>>"} {
			if z, none := made(t, op, x, 32), made(t, op, x, 0); !same(z, none) {
				t.Errorf("%d %s 32: %v, not %v", a, op, z, none)
			}
		}
	}
}

func TestNu6Whole(t *testing.T) {
	for _, x := range finite(3000) {
		down := number.Floor(x)
		after := new(big.Rat).Add(exact(down), big.NewRat(1, 1))
		if !(down <= x) || exact(x).Cmp(after) >= 0 || !exact(down).IsInt() {
			t.Errorf("Floor(%v): %v", x, down)
		}
		check(t, "Ceil", x, number.Ceil(x), -number.Floor(-x))
		half := new(big.Rat).Add(exact(x), big.NewRat(1, 2))
		if r := number.Round(x); exact(r).Cmp(new(big.Rat).SetInt(floor(half))) != 0 {
			t.Errorf("Round(%v): %v", x, r)
		}
		if n := number.Integer(x); x < 0 && !same(n, number.Ceil(x)) || x >= 0 && n != number.Floor(x) {
			t.Errorf("Integer(%v): %v", x, n)
		}
	}
}

// Of x and y just one is less, or they are equal.
func TestNu6Less(t *testing.T) {
	l := numbers()
	for _, x := range l {
		for _, y := range l {
			n := number.Less(x, y) + number.Less(y, x)
			if number.Equal(x, y) {
				n++
			}
			if n != 1 {
				t.Errorf("%v and %v", x, y)
			}
			if least, most := number.Least([]float64{x, y}), number.Most([]float64{x, y}); number.Less(x, y) == 1 && (!same(least, x) || !same(most, y)) {
				t.Errorf("%v and %v: %v, %v", x, y, least, most)
			}
		}
	}
}
