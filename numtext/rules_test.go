package numtext_test

import (
	"math"
	"slices"
	"strings"
	"sync"
	"testing"

	"quill/api"
	"quill/numtext"
	"quill/ustr"
)

// heard is what a call tells: texts, and numbers or a float's bits.
type heard struct {
	s      string
	n      int
	errno  api.Errno
	float  uint64
	answer bool
}

// calls is what all calls tell of these arguments.
func calls(x float64, n int, s string) []heard {
	var l []heard
	text := func(s string, errno api.Errno) { l = append(l, heard{s: s, errno: errno}) }
	float := func(x float64) { l = append(l, heard{float: math.Float64bits(x)}) }
	digits, at, errno := numtext.Shortest(x)
	l = append(l, heard{s: digits, n: at, errno: errno})
	text(numtext.Text(x), api.OK)
	text(numtext.Radix(x, n))
	text(numtext.Fixed(x, n))
	text(numtext.Exponential(x, n))
	text(numtext.Precision(x, n))
	float(numtext.Number(s))
	float(numtext.Float(s))
	float(numtext.Int(s, n))
	y, ok := numtext.Literal(s)
	return append(l, heard{float: math.Float64bits(y), answer: ok})
}

func anyFloats() []float64 {
	l := []float64{0, math.Copysign(0, -1), 1, -1, 0.5, -0.1, 1e21, -1e21, 1e22, math.MaxFloat64, -math.MaxFloat64, 5e-324, -5e-324, math.Ldexp(1, -1022), math.Inf(1), math.Inf(-1), math.NaN()}
	return append(l, math.Float64frombits(0xFFFFFFFFFFFFFFFF), math.Float64frombits(0x7FF0000000000001), math.Float64frombits(0xFFF8000000000000))
}

func anyNumbers() []int {
	return []int{math.MinInt, math.MinInt + 1, -1 << 32, -100, -2, -1, 0, 1, 2, 10, 16, 20, 21, 22, 36, 37, 100, 1 << 32, math.MaxInt - 1, math.MaxInt}
}

// anyTexts are texts of all kinds, and strings of an odd number of bytes.
func anyTexts() []string {
	l := []string{"", "\x00", "0", "\xFF", "1", "\x001", "\x001\x00", "\x00 \x00", "\xD8\x00", "\xD8\x00\xDC\x00", "\xDC", "\x000\x00x", "\x000\x00x\x00", "\x00-", "\x00-\x00", "\x00.\x00e", "\xFF\xFE1\x00"}
	for _, s := range []string{
		" ", "-", "+", ".", "e", "0x", "-0x", "Infinity", "-Infinity", "1e", "1e+", "1e999999999999999999999999999", "1e-999999999999999999999999999", "0e-99999999999999999999",
		"-0", "5.", ".5", "zzz", "NaN", "0x1F", "010", "١", strings.Repeat("9", 3000), "." + strings.Repeat("0", 3000) + "1", strings.Repeat(" ", 3000), strings.Repeat("-", 3000), "0x" + strings.Repeat("f", 3000), "1e" + strings.Repeat("0", 3000) + "1",
	} {
		l = append(l, wide(s), wide(s)+"\x00", wide(s)+"1")
	}
	return l
}

// each calls f with arguments of all kinds.
func each(f func(x float64, n int, s string)) {
	floats, numbers, texts := anyFloats(), anyNumbers(), anyTexts()
	for i, n := range numbers {
		for j, x := range floats {
			f(x, n, texts[(i+j)%len(texts)])
		}
		for j, s := range texts {
			f(floats[(i+j)%len(floats)], n, s)
		}
	}
}

func TestR1NoPanic(t *testing.T) {
	each(func(x float64, n int, s string) { calls(x, n, s) })
	// What could take long: many digits, noughts, signs, white, and great exponents.
	for _, unit := range []string{"0", "9", "1", " ", "-", "e", "x", ".", "f", "\xFF"} {
		s := ustr.Wide(strings.Repeat(unit, 1<<21))
		calls(1, 16, s)
		calls(1, 36, ustr.Wide("0x")+s)
		calls(1, 10, ustr.Wide("1.")+s)
		calls(1, 10, ustr.Wide("1e-")+s)
		calls(1, 10, ustr.Wide("-.")+s)
	}
	calls(1, 2, ustr.Wide(strings.Repeat("1 ", 1<<20)))
	draw := draws()
	for range 3000 {
		var b strings.Builder
		for range draw() % 12 {
			b.WriteByte("\x00\x00\x00\x0001e.-+xI\xFF "[draw()%13])
		}
		calls(math.Float64frombits(draw()), int(draw()%40)-2, b.String())
	}
}

// Beside an error there is nothing; an argument that may not be is told ahead of
// what the float is.
func TestR2(t *testing.T) {
	each(func(x float64, n int, s string) {
		for i, c := range calls(x, n, s) {
			if c.errno != api.OK && (c.s != "" || c.n != 0) {
				t.Errorf("an answer beside error %d of call %d: %q, %d", c.errno, i, c.s, c.n)
			}
			if c.errno != api.OK && c.errno != api.ErrArg {
				t.Errorf("error %d of call %d", c.errno, i)
			}
		}
		if y, ok := numtext.Literal(s); !ok && !same(y, 0) {
			t.Errorf("%v beside a false", y)
		}
	})
	for _, x := range anyFloats() {
		for _, call := range []func(float64, int) (string, api.Errno){numtext.Radix, numtext.Fixed, numtext.Exponential, numtext.Precision} {
			if s, errno := call(x, 100); s != "" || errno != api.ErrArg {
				t.Errorf("of %v: %q, error %d", x, s, errno)
			}
		}
	}
}

// Answers stay what they are, whatever is asked behind them.
func TestR3AnswersStay(t *testing.T) {
	var kept []heard
	var copies []heard
	each(func(x float64, n int, s string) {
		for _, c := range calls(x, n, s) {
			kept = append(kept, c)
			c.s = strings.Clone(c.s)
			copies = append(copies, c)
		}
	})
	each(func(x float64, n int, s string) { calls(x, n, s) })
	if !slices.Equal(kept, copies) {
		t.Error("an answer has changed")
	}
}

func TestR4OnlyArguments(t *testing.T) {
	ask := func() []heard {
		var l []heard
		each(func(x float64, n int, s string) { l = append(l, calls(x, n, s)...) })
		return l
	}
	first := ask()
	var all [4][]heard
	var group sync.WaitGroup
	for i := range all {
		group.Go(func() { all[i] = ask() })
	}
	group.Wait()
	for _, l := range all {
		if !slices.Equal(l, first) {
			t.Error("the same calls told something else")
		}
	}
}

// The last byte of an odd number counts not.
func TestTextsOfOddBytes(t *testing.T) {
	for _, s := range []string{"", "1", "12", "-0", "0x1F", " 5 ", "1e5", "1e", "Infinity", "z", ".5", "0x"} {
		text := wide(s)
		for _, last := range []string{"\x00", "1", "0", "\x20", "\xFF"} {
			for _, n := range []int{0, 10, 16, 36} {
				if !slices.Equal(calls(1, n, text+last), calls(1, n, text)) {
					t.Errorf("of %q and the byte %q", s, last)
				}
			}
		}
	}
}

// All NaNs are told alike, and just one is told.
func TestNaNs(t *testing.T) {
	for _, bits := range []uint64{0x7FF8000000000000, 0x7FF8000000000001, 0x7FF0000000000001, 0xFFF8000000000000, 0xFFFFFFFFFFFFFFFF} {
		x := math.Float64frombits(bits)
		for _, s := range []string{numtext.Text(x), first(numtext.Radix(x, 2)), first(numtext.Fixed(x, 1)), first(numtext.Exponential(x, 1)), first(numtext.Precision(x, 1))} {
			if s != ustr.Wide("NaN") {
				t.Errorf("of the NaN %x: %q", bits, s)
			}
		}
	}
	for _, x := range []float64{numtext.Number(wide("x")), numtext.Number(wide("-x")), numtext.Float(wide("x")), numtext.Float(wide("-")), numtext.Int(wide("-"), 10), numtext.Int(wide("1"), 1), numtext.Int(wide("-1"), 37)} {
		if math.Float64bits(x) != nan {
			t.Errorf("a NaN of the bits %x", math.Float64bits(x))
		}
	}
}

func first(s string, _ api.Errno) string { return s }
