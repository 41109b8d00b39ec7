package property_test

import (
	"math"
	"strconv"
	"strings"
	"testing"

	"quill/numtext"
	"quill/property"
	"quill/ustr"
)

func TestPr4IndexRows(t *testing.T) {
	for _, row := range []struct {
		key string
		i   uint32
	}{
		{"0", 0}, {"1", 1}, {"9", 9}, {"10", 10}, {"99", 99}, {"100", 100}, {"12345", 12345}, {"999999999", 999999999}, {"1000000000", 1000000000}, {"2147483647", math.MaxInt32}, {"2147483648", 1 << 31}, {"4294967289", math.MaxUint32 - 6}, {"4294967290", math.MaxUint32 - 5}, {"4294967293", math.MaxUint32 - 2}, {"4294967294", math.MaxUint32 - 1},
	} {
		if i, ok := property.Index(wide(row.key)); i != row.i || !ok {
			t.Errorf("Index(%s): %d, %v", row.key, i, ok)
		}
	}
}

func TestPr4NoIndex(t *testing.T) {
	var keys []string
	for _, key := range []string{
		"", "01", "00", "000", "0000000000", "00000000001", "04294967294", "-0", "-1", "+0", "+1", "4294967295", "4294967296", "4294967297", "4294967300", "4294968294", "4300000000", "5000000000", "9999999999", "10000000000", "42949672940", "12345678901", "18446744073709551615", "18446744073709551616", "18446744073709551617", "36893488147419103233",
		" 1", "1 ", "\t1", "1\n", "1.0", "1.", ".0", ".", "1.5", "1e1", "1e3", "1E1", "1e21", "0x1", "0x", "1a", "a1", "a", "/", ":", "1/", "1:", "1,0", "NaN", "Infinity", "length", "null", "\x00", "1\x00", "\x001", "\xB2", "\xB9",
	} {
		keys = append(keys, wide(key))
	}
	// Bytes that look like digits: of half units, of other units' halves, of an odd number.
	keys = append(keys, "0", "1", "\x001\x00", "\x00", "\x000\x00", "\x001\x002\x00", "\x0012", "11", "0\x00", "1\x00", "1234", strings.Repeat("0", 20))
	keys = append(keys, ustr.Make([]uint16{0x0131}), ustr.Make([]uint16{'1', 0x3031}), ustr.Make([]uint16{0xFF11}), ustr.Make([]uint16{0x0661}), ustr.Make([]uint16{0xFEFF, '1'}), ustr.Make([]uint16{0xD835, 0xDFCF}), ustr.Make([]uint16{'1', 0xD800}))
	keys = append(keys, wide(strings.Repeat("1", 1<<20)), wide(strings.Repeat("0", 1<<20)), wide("1"+strings.Repeat("0", 1<<20)))
	for _, key := range keys {
		if i, ok := property.Index(key); i != 0 || ok {
			t.Errorf("Index(%.40q): %d, %v", key, i, ok)
		}
	}
}

// isIndex is the words' array index, by asking layer 3 there and back.
func isIndex(key string) (uint32, bool) {
	x := numtext.Number(key)
	if x < 0 || x > math.MaxUint32-1 || x != math.Floor(x) || numtext.Text(x) != key {
		return 0, false
	}
	return uint32(x), true
}

func indexed(t *testing.T, key string) bool {
	want, is := isIndex(key)
	i, ok := property.Index(key)
	if i != want || ok != is {
		t.Errorf("Index(%.40q): %d, %v, not %d, %v", key, i, ok, want, is)
	}
	return ok
}

// All texts of up to four pieces, and an odd byte behind them.
func TestPr4IndexShort(t *testing.T) {
	pieces := []string{"", "0", "1", "9", "42949672", "94", "95", "-", "+", " ", ".", "e", "x", "\x00"}
	met := 0
	for _, a := range pieces {
		for _, b := range pieces {
			for _, c := range pieces {
				for _, d := range pieces {
					key := wide(a + b + c + d)
					if indexed(t, key) {
						met++
					}
					if i, ok := property.Index(key + "\x00"); i != 0 || ok {
						t.Errorf("Index(%q): %d, %v", key+"\x00", i, ok)
					}
				}
			}
		}
	}
	if met < 1000 {
		t.Errorf("%d were indexes", met)
	}
}

func TestPr4IndexDrawn(t *testing.T) {
	draw := draws(4)
	met := 0
	for range 50000 {
		key := []byte(wide(strconv.FormatUint(draw()>>(draw()%60), 10)))
		if draw()%4 == 0 && len(key) > 0 {
			key[draw()%uint64(len(key))] ^= 1 << (draw() % 8)
		}
		if indexed(t, string(key)) {
			met++
		}
	}
	if met < 10000 || met > 40000 {
		t.Errorf("%d of 50000 were indexes", met)
	}
}

// numbers are small ones, those about powers of ten and of two, and drawn ones.
func numbers() []uint32 {
	l := []uint32{math.MaxUint32, math.MaxUint32 - 1}
	for i := range uint32(3000) {
		l = append(l, i)
	}
	for n := uint64(1); n <= math.MaxUint32; n *= 10 {
		l = append(l, uint32(n-1), uint32(n), uint32(n+1))
	}
	for i := range 32 {
		l = append(l, 1<<i-1, 1<<i, 1<<i+1)
	}
	draw := draws(6)
	for range 20000 {
		l = append(l, uint32(draw()>>(32+draw()%32)))
	}
	return l
}

func TestPr4Key(t *testing.T) {
	for _, row := range []struct {
		i    uint32
		want string
	}{
		{0, "0"}, {1, "1"}, {10, "10"}, {100, "100"}, {1000000000, "1000000000"}, {math.MaxUint32 - 1, "4294967294"}, {math.MaxUint32, "4294967295"},
	} {
		if key := property.Key(row.i); key != wide(row.want) {
			t.Errorf("Key(%d): %q", row.i, ustr.Encode(key))
		}
	}
	for _, i := range numbers() {
		if key := property.Key(i); key != wide(strconv.FormatUint(uint64(i), 10)) || key != numtext.Text(float64(i)) {
			t.Errorf("Key(%d): %q", i, ustr.Encode(key))
		}
	}
}

// Index of Key is the index; of 2^32 - 1 there is none.
func TestPr6Index(t *testing.T) {
	for _, i := range numbers() {
		want, is := i, true
		if i == math.MaxUint32 {
			want, is = 0, false
		}
		if j, ok := property.Index(property.Key(i)); j != want || ok != is {
			t.Errorf("Index of Key(%d): %d, %v", i, j, ok)
		}
	}
}
