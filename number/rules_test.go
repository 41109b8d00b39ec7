package number_test

import (
	"math"
	"slices"
	"strings"
	"sync"
	"testing"

	"quill/api"
	"quill/number"
)

// calls is the bits of what all calls tell of these arguments.
func calls(op string, x, y float64, least, most int, l []float64) []uint64 {
	var told []uint64
	for _, call := range []func(float64) float64{number.Integer, number.Floor, number.Ceil, number.Round, number.Abs, number.Sqrt} {
		told = append(told, math.Float64bits(call(x)))
	}
	for _, call := range []func([]float64) float64{number.Least, number.Most} {
		told = append(told, math.Float64bits(call(l)))
	}
	truth := func(b bool) {
		told = append(told, 0)
		if b {
			told[len(told)-1] = 1
		}
	}
	index, ok := number.Index(x)
	truth(ok)
	truth(number.Equal(x, y))
	truth(number.Same(x, y))
	two, errno2 := number.Binary(op, x, y)
	one, errno1 := number.Unary(op, x)
	return append(told,
		uint64(number.Int32(x)), uint64(number.Uint32(x)), uint64(number.Uint16(x)), uint64(number.Place(x, least, most)), uint64(index), uint64(number.Less(x, y)),
		math.Float64bits(two), uint64(errno2), math.Float64bits(one), uint64(errno1))
}

func anyFloats() []float64 {
	return slices.Concat(edges(), nans(), []float64{math.Inf(1), math.Inf(-1)}, drawn(20))
}

func anyOps() []string {
	ops := append(wrongOps(), "~")
	for _, b := range binaries() {
		ops = append(ops, b.op)
	}
	return ops
}

func anyNumbers() []int {
	return []int{math.MinInt, math.MinInt + 1, -1 << 32, -1, 0, 1, 2, 1 << 31, 1<<53 + 1, math.MaxInt - 1, math.MaxInt}
}

// each calls f with arguments of all kinds: each two floats, with an operator,
// bounds and a list.
func each(f func(op string, x, y float64, least, most int, l []float64)) {
	floats, ops, numbers := anyFloats(), anyOps(), anyNumbers()
	k := 0
	for i, x := range floats {
		for j := i % 5; j < len(floats); j += 5 {
			k++
			from := k % len(floats)
			f(ops[k%len(ops)], x, floats[j], numbers[k%len(numbers)], numbers[k/7%len(numbers)], floats[from:min(from+k%9, len(floats))])
		}
	}
}

func TestR1NoPanic(t *testing.T) {
	each(func(op string, x, y float64, least, most int, l []float64) { calls(op, x, y, least, most, l) })
	// What could take long: quotients of many bits, long lists, long texts.
	for range 2000 {
		number.Binary("%", math.MaxFloat64, 5e-324)
		number.Binary("%", -math.MaxFloat64, math.Ldexp(3, -1074))
		number.Uint32(math.MaxFloat64)
	}
	long := make([]float64, 1<<22)
	if x, y := number.Least(long), number.Most(long); !same(x, 0) || !same(y, 0) {
		t.Errorf("of many noughts: %v, %v", x, y)
	}
	for range 100 {
		if z, errno := number.Binary(strings.Repeat(">", 1<<16), 1, 1); z != 0 || errno != api.ErrArg {
			t.Errorf("a long operator: %v, error %d", z, errno)
		}
	}
}

// Beside an error and beside a false there is nothing.
func TestR2(t *testing.T) {
	each(func(op string, x, y float64, _, _ int, _ []float64) {
		if z, errno := number.Binary(op, x, y); errno != api.OK && (errno != api.ErrArg || !same(z, 0)) {
			t.Errorf("Binary %q: %v beside error %d", op, z, errno)
		}
		if z, errno := number.Unary(op, x); errno != api.OK && (errno != api.ErrArg || !same(z, 0)) {
			t.Errorf("Unary %q: %v beside error %d", op, z, errno)
		}
		if n, ok := number.Index(x); !ok && n != 0 {
			t.Errorf("Index(%v): %d beside a false", x, n)
		}
	})
}

// A list, and the room behind its end, is not changed, and that room counts not.
func TestR3ListsAreLeft(t *testing.T) {
	draw := draws()
	floats := anyFloats()
	bits := func(l []float64) []uint64 {
		var all []uint64
		for _, x := range l {
			all = append(all, math.Float64bits(x))
		}
		return all
	}
	for range 500 {
		var whole []float64
		for range draw()%9 + 3 {
			whole = append(whole, floats[draw()%uint64(len(floats))])
		}
		end := len(whole) - 3
		whole[end], whole[end+1], whole[end+2] = math.NaN(), math.Inf(1), math.Inf(-1)
		before := bits(whole)
		least, most := number.Least(whole[:end]), number.Most(whole[:end])
		if !slices.Equal(bits(whole), before) {
			t.Errorf("a list was changed: %v", whole)
		}
		alone := slices.Clip(slices.Clone(whole[:end]))
		if !same(number.Least(alone), least) || !same(number.Most(alone), most) {
			t.Errorf("what lies behind a list's end counts: %v", whole)
		}
	}
}

func TestR3NilIsEmpty(t *testing.T) {
	if !slices.Equal(calls("+", 1, 2, 3, 4, nil), calls("+", 1, 2, 3, 4, []float64{})) {
		t.Error("nil and the empty list are not the same")
	}
}

func TestR4OnlyArguments(t *testing.T) {
	ask := func() []uint64 {
		var l []uint64
		each(func(op string, x, y float64, least, most int, list []float64) {
			l = append(l, calls(op, x, y, least, most, list)...)
		})
		return l
	}
	first := ask()
	var all [4][]uint64
	var group sync.WaitGroup
	for i := range all {
		group.Go(func() { all[i] = ask() })
	}
	group.Wait()
	for _, l := range all {
		if !slices.Equal(l, first) {
			t.Error("the same calls told something else")
		}
	}
}

// Each sum, product and quotient is rounded by itself: a product that a sum is
// made of is a float first.
func TestR5RoundedEach(t *testing.T) {
	e := math.Ldexp(1, -30)
	for _, row := range []struct{ x, y, z, want float64 }{
		{1 + e, 1 - e, -1, 0}, // joined: -2^-60
		{1 + e, 1 + e, -1 - 2*e, 0},
		{0.1, 10, -1, 0},
		{134217729, 134217727, -1 << 54, 0}, // 2^54 - 1 is between two floats
	} {
		p := made(t, "*", row.x, row.y)
		if s := made(t, "+", p, row.z); !same(s, row.want) {
			t.Errorf("%v * %v + %v: %v", row.x, row.y, row.z, s)
		}
	}
	// Of two as near the one whose last bit is 0.
	for _, row := range []struct {
		op         string
		x, y, want float64
	}{
		{"+", 1 << 53, 1, 1 << 53}, {"+", 1<<53 + 2, 1, 1<<53 + 4}, {"-", -1 << 53, 1, -1 << 53}, {"-", -1<<53 - 2, 1, -1<<53 - 4}, {"+", 1, math.Ldexp(1, -53), 1}, {"+", 1 + math.Ldexp(1, -52), math.Ldexp(1, -53), 1 + math.Ldexp(1, -51)},
		{"*", 1<<52 + 1, 1.5, 1.5*(1<<52) + 2}, {"*", 5e-324, 0.5, 0}, {"*", 1.5e-323, 0.5, 1e-323}, {"/", 5e-324, 2, 0}, {"/", 1.5e-323, 2, 1e-323}, {"/", -2.5e-323, 2, -1e-323},
	} {
		if z := made(t, row.op, row.x, row.y); !same(z, row.want) {
			t.Errorf("%v %s %v: %v, want %v", row.x, row.op, row.y, z, row.want)
		}
	}
}
