package bignum_test

import (
	"math"
	"math/big"
	"strings"
	"testing"

	"quill/api"
	"quill/bignum"
)

// checkText holds all radixes' digits of a natural against those of the library.
func checkText(t *testing.T, a []uint32) {
	t.Helper()
	x := amount(a)
	for radix := 2; radix <= 36; radix++ {
		want := x.Text(radix)
		got, errno := bignum.Text(a, radix)
		if got != want || errno != api.OK {
			t.Fatalf("Text(%x, %d): %q, %d", a, radix, got, errno)
		}
		for _, s := range []string{want, strings.ToUpper(want), "0" + want, strings.Repeat("0", 99) + want} {
			l, errno := bignum.Parse(s, radix)
			check(t, "Parse", l, errno, natural(x))
		}
	}
}

func TestBn4(t *testing.T) {
	for _, a := range lists(edges(), 2) {
		checkText(t, a)
	}
	draw := draws()
	for _, n := range []int{3, 10, 99, api.MaxWords} {
		checkText(t, drawn(draw, n))
	}
	checkText(t, full(api.MaxWords))
	checkText(t, append([]uint32{35, 36}, make([]uint32, 2*api.MaxWords)...))
	// Noughts within, and at the end.
	for _, s := range []string{"1000000000000000000000000000000", "5000000000000000000000000001", "10", "101", "1000000001"} {
		x, _ := new(big.Int).SetString(s, 10)
		checkText(t, natural(x))
	}
}

func TestBn4Text(t *testing.T) {
	rows := []struct {
		n     uint64
		radix int
		want  string
	}{
		{0, 10, "0"}, {0, 2, "0"}, {0, 36, "0"}, {255, 16, "ff"}, {35, 36, "z"}, {36, 36, "10"}, {5, 2, "101"},
		{1000000000, 10, "1000000000"}, {math.MaxUint64, 16, "ffffffffffffffff"},
	}
	for _, row := range rows {
		if s, errno := bignum.Text(bignum.Of(row.n), row.radix); s != row.want || errno != api.OK {
			t.Errorf("Text(%d, %d): %q, %d", row.n, row.radix, s, errno)
		}
	}
	for _, radix := range noRadix() {
		for _, a := range [][]uint32{nil, {5}, full(api.MaxWords + 1)} {
			if s, errno := bignum.Text(a, radix); s != "" || errno != api.ErrArg {
				t.Errorf("Text by %d: %q, %d", radix, s, errno)
			}
		}
	}
	if s, errno := bignum.Text(top(api.MaxWords+1), 10); s != "" || errno != api.ErrLong {
		t.Errorf("Text: %q, %d", s, errno)
	}
}

func noRadix() []int {
	return []int{math.MinInt, -10, -1, 0, 1, 37, 38, 100, math.MaxInt, 1<<32 + 10, 256 + 10}
}

// Every byte is a digit of just the radixes above it.
func TestBn4ParseBytes(t *testing.T) {
	const digits = "0123456789abcdefghijklmnopqrstuvwxyz"
	for c := range 256 {
		b := string([]byte{byte(c)})
		for radix := 2; radix <= 36; radix++ {
			i := -1
			if c < 128 {
				i = strings.IndexByte(digits, strings.ToLower(b)[0])
			}
			for _, s := range []string{b, "1" + b, b + "1", "1" + b + "1"} {
				l, errno := bignum.Parse(s, radix)
				if i < 0 || i >= radix {
					refused(t, "Parse", l, errno, api.ErrNone)
				} else if errno != api.OK {
					t.Errorf("Parse(%q, %d): error %d", s, radix, errno)
				}
			}
		}
	}
}

func TestBn4ParseWrong(t *testing.T) {
	for _, radix := range noRadix() {
		for _, s := range []string{"", "1", "!", strings.Repeat("1", 70000)} {
			l, errno := bignum.Parse(s, radix)
			refused(t, "Parse", l, errno, api.ErrArg)
		}
	}
	for _, s := range []string{"", " ", "+1", "-1", " 1", "1 ", "1.0", "1_0", "0x1", "\x001", "１", "é", strings.Repeat("1", 70000) + "!"} {
		for _, radix := range []int{2, 10, 16} {
			l, errno := bignum.Parse(s, radix)
			refused(t, "Parse", l, errno, api.ErrNone)
		}
	}
	for _, s := range []string{"0", "00", strings.Repeat("0", 70000)} {
		l, errno := bignum.Parse(s, 10)
		check(t, "Parse", l, errno, nil)
	}
}

func TestBn4ParseLong(t *testing.T) {
	for radix := 2; radix <= 36; radix++ {
		most := amount(full(api.MaxWords))
		for _, s := range []string{most.Text(radix), strings.Repeat("0", 50000) + most.Text(radix)} {
			l, errno := bignum.Parse(s, radix)
			check(t, "Parse", l, errno, full(api.MaxWords))
		}
		over := power(32 * api.MaxWords).Text(radix)
		for _, s := range []string{over, "00" + over, over + "0", strings.Repeat("1", 1<<20)} {
			l, errno := bignum.Parse(s, radix)
			refused(t, "Parse", l, errno, api.ErrLong)
		}
	}
}
