package numtext_test

import (
	"math"
	"math/big"
	"strconv"
	"strings"
	"testing"

	"quill/api"
	"quill/numtext"
	"quill/ustr"
)

// draws tells numbers one after the other that look like chance, the same each time.
func draws() func() uint64 {
	state := uint64(1)
	return func() uint64 {
		state += 0x9E3779B97F4A7C15
		z := (state ^ state>>30) * 0xBF58476D1CE4E5B9
		z = (z ^ z>>27) * 0x94D049BB133111EB
		return z ^ z>>31
	}
}

// edges are floats above 0 at which something is rounded, carried or told otherwise.
func edges() []float64 {
	l := []float64{
		5e-324, 1e-323, 1.5e-323, 2e-323, 2.5e-323, 3e-323, 5e-323, 9e-323, 9.4e-323, 1e-322, 1e-310, 4.45e-308,
		math.Ldexp(1, -1022), math.Nextafter(math.Ldexp(1, -1022), 0), math.MaxFloat64,
		0.1, 0.2, 0.3, 0.5, 0.25, 0.75, 1.5, 2.5, 1.005, 0.30000000000000004, 1.0 / 3, 2.0 / 3, 0.95, 9.5, 9.95, 99.5, 999.5, 0.09995, 123.456,
		0.000001, 0.0000001, 0.00000099, 0.0000012345, 0.00000012345, 1e20, 1e21, 1e22, 1e23, 9e22, 123e20, 123456789012345680000,
		999999999999999900000, 9007199254740991, 9007199254740992, 9007199254740994, 4503599627370495.5, 2251799813685249.5,
		1125899906842624.25, 1125899906842624.75, 562949953421312.125, math.Ldexp(1, -44), 9.109e-31, 6.02214076e23, 1, 2, 3, 9, 10, 11, 99, 100, 255,
	}
	for n := -330; n <= 308; n += 3 {
		x, _ := strconv.ParseFloat("1e"+strconv.Itoa(n), 64)
		if x > 0 {
			l = append(l, x, math.Nextafter(x, math.Inf(1)))
		}
	}
	return l
}

// powers are all powers of 2, and each one's neighbours.
func powers() []float64 {
	var l []float64
	for n := -1074; n <= 1023; n++ {
		x := math.Ldexp(1, n)
		l = append(l, x, math.Nextafter(x, math.Inf(1)))
		if n > -1074 {
			l = append(l, math.Nextafter(x, 0))
		}
	}
	return l
}

// drawn are floats above 0 of all sizes, and such as have few bits.
func drawn(n int) []float64 {
	draw := draws()
	var l []float64
	for range n {
		x := math.Float64frombits(draw() &^ (1 << 63))
		if x > 0 && !math.IsInf(x, 0) {
			l = append(l, x)
		}
		l = append(l, float64(draw()>>11)/float64(uint64(1)<<(draw()%60)), float64(draw()%100000+1)/8, float64(draw()%100000+1)/100)
	}
	return l
}

// exact is a float as the library's fraction.
func exact(x float64) *big.Rat { return new(big.Rat).SetFloat64(x) }

// ten is 10^n.
func ten(n int) *big.Rat {
	p := new(big.Rat).SetInt(new(big.Int).Exp(big.NewInt(10), big.NewInt(int64(max(n, -n))), nil))
	if n < 0 {
		p.Inv(p)
	}
	return p
}

// floor is x rounded down; x is not below 0.
func floor(x *big.Rat) *big.Int { return new(big.Int).Quo(x.Num(), x.Denom()) }

// place is n with 10^(n-1) <= x < 10^n.
func place(x float64) int {
	n := int(math.Floor(math.Log10(x))) + 1
	for exact(x).Cmp(ten(n)) >= 0 {
		n++
	}
	for exact(x).Cmp(ten(n-1)) < 0 {
		n--
	}
	return n
}

// shortest is the shortest digits and n, by trying: of k digits, from 1 on, those
// below and above x that the library reads as x.
func shortest(x float64) (string, int) {
	n := place(x)
	for k := 1; ; k++ {
		scaled := new(big.Rat).Mul(exact(x), ten(k-n))
		down := floor(scaled)
		up := new(big.Int).Add(down, big.NewInt(1))
		var best *big.Int
		for _, c := range []*big.Int{down, up} {
			read, _ := strconv.ParseFloat(c.String()+"e"+strconv.Itoa(n-k), 64)
			if read == x && (best == nil || closer(c, best, scaled)) {
				best = c
			}
		}
		if best != nil {
			digits := best.String()
			return strings.TrimRight(digits, "0"), n - k + len(digits)
		}
	}
}

// closer tells whether c is rather taken than best: it lies nearer, or as near,
// and is even.
func closer(c, best *big.Int, x *big.Rat) bool {
	away := func(c *big.Int) *big.Rat {
		d := new(big.Rat).Sub(new(big.Rat).SetInt(c), x)
		return d.Abs(d)
	}
	order := away(c).Cmp(away(best))
	return order < 0 || order == 0 && c.Bit(0) == 0
}

// told holds a text, and no error, against what is wanted.
func told(t *testing.T, call, s string, errno api.Errno, want string) {
	t.Helper()
	if s != ustr.Wide(want) || errno != api.OK {
		t.Errorf("%s: %q, error %d, want %q", call, ustr.Encode(s), errno, want)
	}
}

// refused holds an answer against ErrArg, and nothing beside it.
func refused(t *testing.T, call, s string, errno api.Errno) {
	t.Helper()
	if s != "" || errno != api.ErrArg {
		t.Errorf("%s: %q, error %d", call, s, errno)
	}
}

// named is a call as an error tells it.
func named(call string, x float64, n int) string {
	return call + "(" + strconv.FormatFloat(x, 'g', -1, 64) + ", " + strconv.Itoa(n) + ")"
}

func checkShortest(t *testing.T, x float64) {
	t.Helper()
	want, at := shortest(x)
	s, n, errno := numtext.Shortest(x)
	if s != ustr.Wide(want) || n != at || errno != api.OK {
		t.Errorf("Shortest(%v): %q, %d, error %d, want %q, %d", x, ustr.Encode(s), n, errno, want, at)
	}
}

func TestNt1Shortest(t *testing.T) {
	rows := []struct {
		x      float64
		digits string
		n      int
	}{
		{1, "1", 1}, {10, "1", 2}, {100, "1", 3}, {0.1, "1", 0}, {0.01, "1", -1}, {12, "12", 2}, {120, "12", 3}, {1.5, "15", 1},
		{5e-324, "5", -323}, {1e-323, "1", -322}, {1.5e-323, "15", -322}, {math.MaxFloat64, "17976931348623157", 309},
		{math.Ldexp(1, -1022), "22250738585072014", -307}, {0.30000000000000004, "30000000000000004", 0}, {1e23, "1", 24}, {1e21, "1", 22},
		// Half way between two floats: read as the even one, which is below it, above it.
		{9699999999999998951424, "97", 22}, {9700000000000001048576, "9700000000000001", 22}, {9900000000000001048576, "99", 22}, {9899999999999998951424, "9899999999999999", 22},
		{9007199254740993, "9007199254740992", 16}, {123e20, "123", 23},
		{math.Ldexp(1, 54), "18014398509481984", 17}, {1125899906842624.25, "11258999068426242", 16}, {1125899906842624.75, "11258999068426248", 16},
		{562949953421312.125, "5629499534213121", 15}, {562949953421312.375, "5629499534213124", 15}, {2251799813685249.5, "22517998136852495", 16},
		// Only the one above is read as the float, though the one below lies nearer.
		{math.Ldexp(1, -44), "5684341886080802", -13}, {math.Ldexp(1, -1017), "7120236347223045", -306},
	}
	for _, row := range rows {
		s, n, errno := numtext.Shortest(row.x)
		if s != ustr.Wide(row.digits) || n != row.n || errno != api.OK {
			t.Errorf("Shortest(%v): %q, %d, error %d, want %q, %d", row.x, ustr.Encode(s), n, errno, row.digits, row.n)
		}
		checkShortest(t, row.x)
	}
}

func TestNt1ShortestHeldAgainstTrying(t *testing.T) {
	for _, l := range [][]float64{edges(), powers(), drawn(1500)} {
		for _, x := range l {
			checkShortest(t, x)
		}
	}
	// The floats that lie farthest apart for their size.
	for n := range 600 {
		checkShortest(t, float64(n+1)*5e-324)
	}
	for n := range 300 {
		checkShortest(t, float64(n+1))
	}
	for _, x := range halfWays() {
		checkShortest(t, x)
	}
}

// halfWays are floats with few digits half way to the next one: those digits are
// read as the one whose last bit is 0.
func halfWays() []float64 {
	var l []float64
	// 5^20 times 95 to 188 has 54 bits, one more than a float holds.
	for c := 95; c <= 188; c++ {
		x, _ := new(big.Rat).Mul(big.NewRat(int64(c), 1), ten(20)).Float64()
		l = append(l, x, math.Nextafter(x, 0), math.Nextafter(x, math.Inf(1)))
	}
	return l
}

func TestNt1ShortestWrong(t *testing.T) {
	for _, x := range []float64{0, math.Copysign(0, -1), -1, -5e-324, -0.1, -math.MaxFloat64, math.Inf(1), math.Inf(-1), math.NaN(), math.Float64frombits(0xFFF8000000000001)} {
		s, n, errno := numtext.Shortest(x)
		if s != "" || n != 0 || errno != api.ErrArg {
			t.Errorf("Shortest(%v): %q, %d, error %d", x, s, n, errno)
		}
	}
}

// laid is the text of digits with their point, as 9.8.1 has it.
func laid(s string, n int) string {
	k := len(s)
	switch {
	case k <= n && n <= 21:
		return s + strings.Repeat("0", n-k)
	case 0 < n && n <= 21:
		return s[:n] + "." + s[n:]
	case -6 < n && n <= 0:
		return "0." + strings.Repeat("0", -n) + s
	}
	return spread(s, n-1)
}

// spread is digits with an exponent.
func spread(s string, e int) string {
	point := ""
	if len(s) > 1 {
		point = "."
	}
	sign := "+"
	if e < 0 {
		sign, e = "-", -e
	}
	return s[:1] + point + s[1:] + "e" + sign + strconv.Itoa(e)
}

func TestNt1Text(t *testing.T) {
	rows := []struct {
		x    float64
		want string
	}{
		{0, "0"}, {math.Copysign(0, -1), "0"}, {math.NaN(), "NaN"}, {math.Float64frombits(0xFFF0000000000001), "NaN"}, {math.Inf(1), "Infinity"}, {math.Inf(-1), "-Infinity"},
		{1, "1"}, {-1, "-1"}, {10, "10"}, {123, "123"}, {0.1, "0.1"}, {-0.1, "-0.1"}, {1.5, "1.5"}, {-123.456, "-123.456"}, {0.5, "0.5"}, {0.05, "0.05"},
		{1e20, "100000000000000000000"}, {1e21, "1e+21"}, {999999999999999900000, "999999999999999900000"}, {123456789012345680000, "123456789012345680000"},
		{1234567890123456800000, "1.2345678901234568e+21"}, {123e20, "1.23e+22"}, {1e100, "1e+100"}, {1.5e300, "1.5e+300"}, {-1e21, "-1e+21"},
		{0.000001, "0.000001"}, {0.0000012345, "0.0000012345"}, {0.00000099, "9.9e-7"}, {0.0000001, "1e-7"}, {1.2345e-7, "1.2345e-7"}, {-1e-7, "-1e-7"}, {1e-10, "1e-10"},
		{5e-324, "5e-324"}, {-5e-324, "-5e-324"}, {math.MaxFloat64, "1.7976931348623157e+308"}, {0.30000000000000004, "0.30000000000000004"},
		{9007199254740993, "9007199254740992"}, {4294967295, "4294967295"}, {12345678.9, "12345678.9"}, {123456789012345.6, "123456789012345.6"},
	}
	for _, row := range rows {
		told(t, "Text("+row.want+")", numtext.Text(row.x), api.OK, row.want)
	}
	for _, l := range [][]float64{edges(), drawn(500)} {
		for _, x := range l {
			want := laid(shortest(x))
			told(t, "Text", numtext.Text(x), api.OK, want)
			told(t, "Text", numtext.Text(-x), api.OK, "-"+want)
		}
	}
}

// Each place of the point that 9.8.1 tells apart, with one digit and with more.
func TestNt1TextPlaces(t *testing.T) {
	for n := -30; n <= 30; n++ {
		for _, s := range []string{"1", "12", "987654321", "12345678901234567"} {
			x, _ := strconv.ParseFloat(s+"e"+strconv.Itoa(n-len(s)), 64)
			told(t, "Text", numtext.Text(x), api.OK, laid(shortest(x)))
		}
	}
}

// inRadix is what Nt2 says of a float above 0, digit by digit.
func inRadix(x float64, radix int) string {
	whole := floor(exact(x))
	rest := new(big.Rat).Sub(exact(x), new(big.Rat).SetInt(whole))
	s := ""
	for i := 0; i < 60 && rest.Sign() > 0; i++ {
		rest.Mul(rest, new(big.Rat).SetInt64(int64(radix)))
		d := floor(rest)
		rest.Sub(rest, new(big.Rat).SetInt(d))
		s += d.Text(radix)
	}
	if s = strings.TrimRight(s, "0"); s != "" {
		s = "." + s
	}
	return whole.Text(radix) + s
}

func TestNt2(t *testing.T) {
	zeros := strings.Repeat("0", 59)
	rows := []struct {
		x     float64
		radix int
		want  string
	}{
		{255, 16, "ff"}, {-255, 16, "-ff"}, {0, 2, "0"}, {math.Copysign(0, -1), 2, "0"}, {0, 36, "0"}, {-0.25, 2, "-0.01"}, {0.5, 2, "0.1"}, {0.5, 16, "0.8"},
		{35, 36, "z"}, {36, 36, "10"}, {-36, 36, "-10"}, {3.75, 8, "3.6"}, {10, 2, "1010"}, {1, 36, "1"}, {0.5, 3, "0." + strings.Repeat("1", 60)},
		{1e21, 16, "3635c9adc5dea00000"}, {343.5, 7, "1000." + strings.Repeat("3", 60)}, {255.5, 36, "73.i"}, {1e21, 10, "1e+21"}, {0.1, 10, "0.1"}, {-1e-7, 10, "-1e-7"},
		// The 60th digit is the last one; what lies behind is cut off, not rounded.
		{math.Ldexp(1, -60), 2, "0." + zeros + "1"}, {math.Ldexp(1, -61), 2, "0"}, {-math.Ldexp(1, -61), 2, "-0"}, {math.Ldexp(3, -61), 2, "0." + zeros + "1"},
		{1 + math.Ldexp(1, -52), 2, "1." + strings.Repeat("0", 51) + "1"}, {5e-324, 36, "0"}, {-5e-324, 2, "-0"}, {1e-300, 10, "1e-300"},
		{math.MaxFloat64, 2, strings.Repeat("1", 53) + strings.Repeat("0", 971)}, {math.MaxFloat64, 16, "fffffffffffff8" + strings.Repeat("0", 242)},
	}
	for _, row := range rows {
		s, errno := numtext.Radix(row.x, row.radix)
		told(t, named("Radix", row.x, row.radix), s, errno, row.want)
	}
	for _, l := range [][]float64{edges(), drawn(20)} {
		for _, x := range l {
			for radix := 2; radix <= 36; radix++ {
				want := inRadix(x, radix)
				if radix == 10 {
					want = laid(shortest(x))
				}
				s, errno := numtext.Radix(x, radix)
				told(t, named("Radix", x, radix), s, errno, want)
				s, errno = numtext.Radix(-x, radix)
				told(t, named("Radix", -x, radix), s, errno, "-"+want)
			}
		}
	}
}

func TestNt2NotFinite(t *testing.T) {
	for radix := -3; radix <= 40; radix++ {
		for x, want := range map[float64]string{math.Inf(1): "Infinity", math.Inf(-1): "-Infinity", math.NaN(): "NaN", 7: strconv.FormatInt(7, min(max(radix, 2), 36)), 0: "0"} {
			s, errno := numtext.Radix(x, radix)
			if radix < 2 || radix > 36 {
				refused(t, named("Radix", x, radix), s, errno)
			} else {
				told(t, named("Radix", x, radix), s, errno, want)
			}
		}
	}
	for _, radix := range []int{math.MinInt, math.MaxInt, 1<<32 + 10, 256 + 16, 100} {
		s, errno := numtext.Radix(1, radix)
		refused(t, named("Radix", 1, radix), s, errno)
	}
}
