package bignum_test

import (
	"math"
	"math/big"
	"slices"
	"strings"
	"testing"

	"quill/api"
	"quill/bignum"
)

// amount is a list's number as the library has it.
func amount(a []uint32) *big.Int {
	x := new(big.Int)
	for i := len(a) - 1; i >= 0; i-- {
		x.Lsh(x, 32)
		x.Or(x, big.NewInt(int64(a[i])))
	}
	return x
}

// natural is the words of the library's number.
func natural(x *big.Int) []uint32 {
	var l []uint32
	rest := new(big.Int).Set(x)
	for rest.Sign() > 0 {
		l = append(l, uint32(new(big.Int).And(rest, big.NewInt(math.MaxUint32)).Uint64()))
		rest.Rsh(rest, 32)
	}
	return l
}

// power is 2^n.
func power(n int) *big.Int { return new(big.Int).Lsh(big.NewInt(1), uint(n)) }

// edges are words at which something is carried or guessed wrongly.
func edges() []uint32 {
	return []uint32{0, 1, 2, 0x7FFFFFFF, 0x80000000, 0xFFFFFFFE, 0xFFFFFFFF}
}

// lists is all lists of these words, none longer than so many; some have words
// of 0 at their end.
func lists(words []uint32, most int) [][]uint32 {
	all, last := [][]uint32{nil}, [][]uint32{nil}
	for range most {
		var next [][]uint32
		for _, l := range last {
			for _, w := range words {
				next = append(next, append(slices.Clone(l), w))
			}
		}
		all, last = append(all, next...), next
	}
	return all
}

// draws tells words one after the other that look like chance, the same each time.
func draws() func() uint32 {
	state := uint64(1)
	return func() uint32 {
		state = state*6364136223846793005 + 1442695040888963407
		return uint32(state >> 32)
	}
}

// drawn is a list of so many drawn words, the last one not 0.
func drawn(draw func() uint32, n int) []uint32 {
	l := make([]uint32, n)
	for i := range l {
		l[i] = draw()
	}
	if n > 0 {
		l[n-1] |= 1
	}
	return l
}

// full is so many words, all their bits 1.
func full(n int) []uint32 {
	l := make([]uint32, n)
	for i := range l {
		l[i] = math.MaxUint32
	}
	return l
}

// top is the least natural of so many words.
func top(n int) []uint32 {
	l := make([]uint32, n)
	l[n-1] = 1
	return l
}

// check holds an answer against words.
func check(t *testing.T, name string, got []uint32, errno api.Errno, want []uint32) {
	t.Helper()
	if errno != api.OK || !slices.Equal(got, want) {
		t.Errorf("%s: %x, error %d, want %x", name, got, errno, want)
	}
}

// refused holds an answer against an error, beside which nothing is told.
func refused(t *testing.T, name string, got []uint32, errno, want api.Errno) {
	t.Helper()
	if errno != want || len(got) != 0 {
		t.Errorf("%s: %d words, error %d, want error %d", name, len(got), errno, want)
	}
}

func TestBn1Of(t *testing.T) {
	rows := []struct {
		n    uint64
		want []uint32
	}{
		{0, nil}, {1, []uint32{1}}, {math.MaxUint32, []uint32{math.MaxUint32}},
		{1 << 32, []uint32{0, 1}}, {0x123456789ABCDEF0, []uint32{0x9ABCDEF0, 0x12345678}},
		{math.MaxUint64, []uint32{math.MaxUint32, math.MaxUint32}},
	}
	for _, row := range rows {
		if got := bignum.Of(row.n); !slices.Equal(got, row.want) {
			t.Errorf("Of(%d): %x", row.n, got)
		}
	}
}

func TestBn1Norm(t *testing.T) {
	rows := []struct{ a, want []uint32 }{
		{nil, nil}, {[]uint32{0}, nil}, {[]uint32{0, 0, 0}, nil}, {[]uint32{1}, []uint32{1}},
		{[]uint32{5, 0, 7, 0, 0}, []uint32{5, 0, 7}}, {[]uint32{0, 0, 1}, []uint32{0, 0, 1}},
		{append(full(api.MaxWords+9), 0), full(api.MaxWords + 9)},
	}
	for _, row := range rows {
		if got := bignum.Norm(row.a); !slices.Equal(got, row.want) {
			t.Errorf("Norm(%x): %x", row.a, got)
		}
	}
}

func TestBn1CmpAndBits(t *testing.T) {
	all := lists(edges(), 3)
	all = append(all, full(api.MaxWords), full(api.MaxWords+1), top(api.MaxWords+1), top(2*api.MaxWords), append(top(api.MaxWords+1), 0, 0))
	for _, a := range all {
		if got, want := bignum.Bits(a), amount(a).BitLen(); got != want {
			t.Errorf("Bits(%x): %d, want %d", a, got, want)
		}
	}
	amounts := make([]*big.Int, len(all))
	for i, a := range all {
		amounts[i] = amount(a)
	}
	for i, a := range all {
		for j := i % 3; j < len(all); j += 3 {
			if got, want := bignum.Cmp(a, all[j]), amounts[i].Cmp(amounts[j]); got != want {
				t.Errorf("Cmp(%x, %x): %d, want %d", a, all[j], got, want)
			}
		}
	}
}

// checkReckon holds sum, difference, product and quotient of a and b against
// those of the library. Neither is long.
func checkReckon(t *testing.T, a, b []uint32) {
	t.Helper()
	x, y := amount(a), amount(b)
	sum, errno := bignum.Add(a, b)
	check(t, "Add", sum, errno, natural(new(big.Int).Add(x, y)))
	product, errno := bignum.Mul(a, b)
	check(t, "Mul", product, errno, natural(new(big.Int).Mul(x, y)))
	difference, errno := bignum.Sub(a, b)
	if x.Cmp(y) < 0 {
		refused(t, "Sub", difference, errno, api.ErrArg)
	} else {
		check(t, "Sub", difference, errno, natural(new(big.Int).Sub(x, y)))
	}
	checkDiv(t, a, b)
}

func checkDiv(t *testing.T, a, b []uint32) {
	t.Helper()
	x, y := amount(a), amount(b)
	quotient, rest, errno := bignum.Div(a, b)
	if y.Sign() == 0 {
		refused(t, "Div", append(quotient, rest...), errno, api.ErrNone)
		return
	}
	q, r := new(big.Int).QuoRem(x, y, new(big.Int))
	check(t, "Div", quotient, errno, natural(q))
	check(t, "Div's rest", rest, errno, natural(r))
	if t.Failed() {
		t.Fatalf("of %x and %x", a, b)
	}
}

func TestBn2AllShort(t *testing.T) {
	all := lists(edges(), 3)
	for i, a := range all {
		for j := i % 2; j < len(all); j += 2 {
			checkReckon(t, a, all[j])
		}
	}
}

// Quotients' words that are guessed too great by one and by two.
func TestBn2DivGuesses(t *testing.T) {
	divisors := lists(edges(), 3)
	for i, a := range lists(edges(), 5) {
		for j := i % 41; j < len(divisors); j += 41 {
			checkDiv(t, a, divisors[j])
		}
	}
	checkDiv(t, []uint32{3, 0, 0x80000000}, []uint32{1, 0, 0x20000000})
	checkDiv(t, []uint32{0, 0xFFFFFFFE, 0x80000000}, []uint32{0xFFFFFFFF, 0x80000000})
	checkDiv(t, []uint32{0, 0, 0x80000000, 0x7FFFFFFF}, []uint32{1, 0, 0x80000000})
}

func TestBn2Drawn(t *testing.T) {
	draw := draws()
	for _, n := range []int{0, 1, 2, 3, 7, 40, 200, 512} {
		for _, m := range []int{0, 1, 2, 3, 7, 40, 200, 512} {
			checkReckon(t, drawn(draw, n), drawn(draw, m))
		}
		checkDiv(t, drawn(draw, api.MaxWords), drawn(draw, n))
	}
	checkDiv(t, full(api.MaxWords), full(api.MaxWords))
	checkDiv(t, full(api.MaxWords), top(api.MaxWords))
}

func TestBn2Examples(t *testing.T) {
	product, errno := bignum.Mul([]uint32{math.MaxUint32}, []uint32{math.MaxUint32})
	check(t, "Mul", product, errno, []uint32{1, 0xFFFFFFFE})
	n, errno := bignum.Parse("100000000000000000000", 10)
	check(t, "Parse", n, errno, []uint32{0x63100000, 0x6BC75E2D, 5})
	quotient, rest, errno := bignum.Div(n, []uint32{3})
	check(t, "Div's rest", rest, errno, []uint32{1})
	if s, _ := bignum.Text(quotient, 10); s != strings.Repeat("3", 20) {
		t.Errorf("Div: %s", s)
	}
	rest, errno = bignum.Sub([]uint32{0, 1}, []uint32{1})
	check(t, "Sub", rest, errno, []uint32{math.MaxUint32})
	_, errno = bignum.Sub([]uint32{5, 0, 0}, []uint32{6})
	refused(t, "Sub", nil, errno, api.ErrArg)
}

// What is reckoned may have MaxWords words, and no more.
func TestBn2LongAnswers(t *testing.T) {
	most, half := full(api.MaxWords), full(api.MaxWords/2)
	sum, errno := bignum.Add(most, []uint32{0})
	check(t, "Add", sum, errno, most)
	less, _ := bignum.Sub(most, []uint32{1})
	sum, errno = bignum.Add([]uint32{1}, less)
	check(t, "Add", sum, errno, most)
	sum, errno = bignum.Add(most, []uint32{1})
	refused(t, "Add", sum, errno, api.ErrLong)
	product, errno := bignum.Mul(half, half)
	check(t, "Mul", product, errno, natural(new(big.Int).Mul(amount(half), amount(half))))
	product, errno = bignum.Mul(top(api.MaxWords/2), top(api.MaxWords/2+1))
	check(t, "Mul", product, errno, top(api.MaxWords))
	product, errno = bignum.Mul(half, full(api.MaxWords/2+1))
	refused(t, "Mul", product, errno, api.ErrLong)
	product, errno = bignum.Mul(top(api.MaxWords/2+1), top(api.MaxWords/2+1))
	refused(t, "Mul", product, errno, api.ErrLong)
	product, errno = bignum.Mul(most, most)
	refused(t, "Mul", product, errno, api.ErrLong)
	product, errno = bignum.Mul(most, nil)
	check(t, "Mul", product, errno, nil)
}

// Naturals that are too long are told ahead of all else, and words of 0 at the
// end make none long.
func TestBn2LongArguments(t *testing.T) {
	long, one := top(api.MaxWords+1), []uint32{1}
	for _, pair := range [][2][]uint32{{long, one}, {one, long}, {long, long}, {long, nil}, {nil, long}} {
		a, b := pair[0], pair[1]
		l, errno := bignum.Add(a, b)
		refused(t, "Add", l, errno, api.ErrLong)
		l, errno = bignum.Sub(a, b)
		refused(t, "Sub", l, errno, api.ErrLong)
		l, errno = bignum.Mul(a, b)
		refused(t, "Mul", l, errno, api.ErrLong)
		quotient, rest, errno := bignum.Div(a, b)
		refused(t, "Div", append(quotient, rest...), errno, api.ErrLong)
	}
	noughts := append([]uint32{5}, make([]uint32, 3*api.MaxWords)...)
	checkReckon(t, noughts, noughts)
	checkReckon(t, noughts, one)
	checkReckon(t, one, make([]uint32, 2*api.MaxWords))
}

func TestBn3Shl(t *testing.T) {
	for _, a := range lists(edges(), 3) {
		for _, n := range []int{0, 1, 5, 31, 32, 33, 63, 64, 100, 1000} {
			l, errno := bignum.Shl(a, n)
			check(t, "Shl", l, errno, natural(new(big.Int).Lsh(amount(a), uint(n))))
		}
	}
	for _, n := range []int{0, 7, 40000, math.MaxInt} {
		l, errno := bignum.Shl([]uint32{0, 0}, n)
		check(t, "Shl of 0", l, errno, nil)
	}
}

func TestBn3ShlEdges(t *testing.T) {
	const most = 32 * api.MaxWords
	l, errno := bignum.Shl([]uint32{1}, most-1)
	check(t, "Shl", l, errno, natural(power(most-1)))
	l, errno = bignum.Shl([]uint32{5, 0}, most-3)
	check(t, "Shl", l, errno, natural(new(big.Int).Lsh(big.NewInt(5), most-3)))
	l, errno = bignum.Shl(full(api.MaxWords), 0)
	check(t, "Shl", l, errno, full(api.MaxWords))
	for _, n := range []int{most - 2, most - 1, most, math.MaxInt - 1, math.MaxInt} {
		l, errno = bignum.Shl([]uint32{5}, n)
		refused(t, "Shl", l, errno, api.ErrLong)
	}
	l, errno = bignum.Shl(full(api.MaxWords), 1)
	refused(t, "Shl", l, errno, api.ErrLong)
	for _, n := range []int{-1, -32, math.MinInt} {
		l, errno = bignum.Shl([]uint32{5}, n)
		refused(t, "Shl", l, errno, api.ErrArg)
		l, errno = bignum.Shl(nil, n)
		refused(t, "Shl", l, errno, api.ErrArg)
		l, errno = bignum.Shl(full(api.MaxWords+1), n)
		refused(t, "Shl", l, errno, api.ErrLong)
	}
	l, errno = bignum.Shl(full(api.MaxWords+1), 0)
	refused(t, "Shl", l, errno, api.ErrLong)
}

func TestBn3Shr(t *testing.T) {
	all := append(lists(edges(), 3), full(api.MaxWords+5), append(top(api.MaxWords+5), 0))
	for _, a := range all {
		x := amount(a)
		for _, n := range []int{0, 1, 5, 31, 32, 33, 63, 64, 65, 95, 96, 97, 40000} {
			shifted := new(big.Int).Rsh(x, uint(n))
			inexact := new(big.Int).Lsh(shifted, uint(n)).Cmp(x) != 0
			l, lost := bignum.Shr(a, n)
			if !slices.Equal(l, natural(shifted)) || lost != inexact {
				t.Fatalf("Shr(%x, %d): %x, %t", a, n, l, lost)
			}
		}
		for _, n := range []int{-1, -40, math.MinInt} {
			if l, lost := bignum.Shr(a, n); !slices.Equal(l, natural(x)) || lost {
				t.Fatalf("Shr(%x, %d): %x, %t", a, n, l, lost)
			}
		}
	}
	if l, lost := bignum.Shr([]uint32{1}, math.MaxInt); len(l) != 0 || !lost {
		t.Errorf("Shr: %x, %t", l, lost)
	}
	if l, lost := bignum.Shr([]uint32{0, 0}, math.MaxInt); len(l) != 0 || lost {
		t.Errorf("Shr of 0: %x, %t", l, lost)
	}
}

func TestBn3Pow(t *testing.T) {
	for _, base := range append(edges(), 3, 10, 36, 65536) {
		for _, n := range []int{0, 1, 2, 3, 5, 8, 31, 100, 1000} {
			l, errno := bignum.Pow(base, n)
			check(t, "Pow", l, errno, natural(new(big.Int).Exp(big.NewInt(int64(base)), big.NewInt(int64(n)), nil)))
		}
	}
	for _, n := range []int{-1, math.MinInt} {
		for _, base := range []uint32{0, 1, 7} {
			l, errno := bignum.Pow(base, n)
			refused(t, "Pow", l, errno, api.ErrArg)
		}
	}
	l, errno := bignum.Pow(0, math.MaxInt)
	check(t, "Pow", l, errno, nil)
	l, errno = bignum.Pow(1, math.MaxInt)
	check(t, "Pow", l, errno, []uint32{1})
}

// longest is the greatest n for which base to the n has MaxWords words at most.
func longest(base int64) int {
	n, x := 0, big.NewInt(base)
	for x.BitLen() <= 32*api.MaxWords {
		n++
		x.Mul(x, big.NewInt(base))
	}
	return n
}

func TestBn3PowLong(t *testing.T) {
	for _, base := range []uint32{2, 3, 10, 65536, 0x80000000, math.MaxUint32} {
		n := longest(int64(base))
		l, errno := bignum.Pow(base, n)
		check(t, "Pow", l, errno, natural(new(big.Int).Exp(big.NewInt(int64(base)), big.NewInt(int64(n)), nil)))
		for _, more := range []int{n + 1, n + 2, 2 * n, 100000, math.MaxInt} {
			l, errno = bignum.Pow(base, more)
			refused(t, "Pow", l, errno, api.ErrLong)
		}
	}
}
