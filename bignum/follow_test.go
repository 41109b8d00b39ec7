package bignum_test

import (
	"math"
	"slices"
	"testing"

	"quill/api"
	"quill/bignum"
)

// good tells what is told beside no error.
func good(t *testing.T) func([]uint32, api.Errno) []uint32 {
	return func(l []uint32, errno api.Errno) []uint32 {
		t.Helper()
		if errno != api.OK {
			t.Fatalf("error %d", errno)
		}
		return l
	}
}

// some is short lists of edges, and drawn ones of all lengths whose products of
// three may still be told.
func some() [][]uint32 {
	all := lists([]uint32{0, 1, 0x80000000, 0xFFFFFFFF}, 2)
	draw := draws()
	for _, n := range []int{1, 2, 3, 8, 65, 340} {
		all = append(all, drawn(draw, n))
	}
	return all
}

func TestBn6Order(t *testing.T) {
	ok := good(t)
	add := func(a, b []uint32) []uint32 { return ok(bignum.Add(a, b)) }
	mul := func(a, b []uint32) []uint32 { return ok(bignum.Mul(a, b)) }
	all := some()
	for _, a := range all {
		for i, b := range all {
			if !slices.Equal(add(a, b), add(b, a)) || !slices.Equal(mul(a, b), mul(b, a)) {
				t.Errorf("order of %x and %x", a, b)
			}
			for j := i % 3; j < len(all); j += 3 {
				c := all[j]
				if !slices.Equal(add(add(a, b), c), add(a, add(b, c))) || !slices.Equal(mul(mul(a, b), c), mul(a, mul(b, c))) {
					t.Errorf("grouping of %x, %x and %x", a, b, c)
				}
				if !slices.Equal(mul(a, add(b, c)), add(mul(a, b), mul(a, c))) {
					t.Errorf("product of a sum of %x, %x and %x", a, b, c)
				}
			}
		}
	}
}

func TestBn6Undone(t *testing.T) {
	ok := good(t)
	all := append(some(), full(api.MaxWords-1))
	for _, a := range all {
		for _, b := range all {
			if got := ok(bignum.Sub(ok(bignum.Add(a, b)), b)); bignum.Cmp(got, a) != 0 {
				t.Errorf("Sub of Add of %x and %x", a, b)
			}
			if bignum.Cmp(b, nil) == 0 {
				continue
			}
			quotient, rest, errno := bignum.Div(a, b)
			if errno != api.OK || bignum.Cmp(rest, b) >= 0 {
				t.Errorf("the rest of %x by %x: %x", a, b, rest)
			}
			if got := ok(bignum.Add(ok(bignum.Mul(quotient, b)), rest)); bignum.Cmp(got, a) != 0 {
				t.Errorf("Mul of Div of %x by %x", a, b)
			}
		}
		for n := range 33 {
			got, lost := bignum.Shr(ok(bignum.Shl(a, n)), n)
			if bignum.Cmp(got, a) != 0 || lost {
				t.Errorf("Shr of Shl of %x by %d", a, n)
			}
		}
	}
}

func TestBn7Text(t *testing.T) {
	ok := good(t)
	for _, a := range append(some(), full(api.MaxWords), top(api.MaxWords)) {
		for radix := 2; radix <= 36; radix++ {
			s, errno := bignum.Text(a, radix)
			if errno != api.OK {
				t.Fatalf("Text: error %d", errno)
			}
			if got := ok(bignum.Parse(s, radix)); bignum.Cmp(got, a) != 0 {
				t.Errorf("Parse of Text of %x by %d: %x", a, radix, got)
			}
		}
	}
}

// Whole numbers of all powers of 2 that floats have.
func TestBn7Float(t *testing.T) {
	ok := good(t)
	draw := draws()
	whole := []float64{0, 1, 2, 3, 1e21, 1 << 53, math.MaxFloat64}
	for n := range 1023 {
		x := math.Ldexp(float64(draw())/(1<<32)+0.5, n)
		whole = append(whole, math.Ldexp(1, n), math.Floor(x), math.Floor(math.Nextafter(math.Ldexp(1, n), 0)))
	}
	for _, x := range whole {
		m, e, errno := bignum.Parts(x)
		if errno != api.OK || e < 0 {
			t.Fatalf("Parts(%v): power %d, error %d", x, e, errno)
		}
		if got := bignum.Float(ok(bignum.Shl(m, e))); got != x {
			t.Errorf("Float of Parts of %v: %v", x, got)
		}
	}
}
