package numtext_test

import (
	"math"
	"math/big"
	"regexp"
	"strconv"
	"strings"
	"testing"

	"quill/numtext"
	"quill/ustr"
)

// What chapter 3 calls a decimal, and what may be read at all.
const aDecimal = `(?:[0-9]+(?:\.[0-9]*)?|\.[0-9]+)(?:[eE][+-]?[0-9]+)?`

var (
	literal     = regexp.MustCompile(`^(?:0[xX][0-9a-fA-F]+|` + aDecimal + `)$`)
	octal       = regexp.MustCompile(`^0[0-9]`)
	hexadecimal = regexp.MustCompile(`^0[xX][0-9a-fA-F]+$`)
	signed      = regexp.MustCompile(`^[+-]?(?:Infinity|` + aDecimal + `)$`)
	beginning   = regexp.MustCompile(`^[+-]?(?:Infinity|` + aDecimal + `)`)
)

const nan = 0x7FF8000000000000

// same tells whether two floats have the same bits.
func same(x, y float64) bool { return math.Float64bits(x) == math.Float64bits(y) }

// none is the NaN that is told.
func none() float64 { return math.Float64frombits(nan) }

// wide is a text of code points up to FFFF.
func wide(s string) string {
	t, _, _ := ustr.Decode(s)
	return t
}

// read is the library's float of a decimal or an infinity, with a sign or none.
func read(s string) float64 {
	if strings.HasSuffix(s, "Infinity") {
		return math.Copysign(math.Inf(1), map[bool]float64{true: -1, false: 1}[s[0] == '-'])
	}
	x, _ := strconv.ParseFloat(s, 64)
	return x
}

// inBase is the float nearest to the number of digits.
func inBase(s string, radix int) float64 {
	n, _ := new(big.Int).SetString(s, radix)
	x, _ := new(big.Float).SetPrec(uint(max(n.BitLen(), 64))).SetInt(n).Float64()
	return x
}

func wantNumber(s string) float64 {
	switch {
	case s == "":
		return 0
	case hexadecimal.MatchString(s):
		return inBase(s[2:], 16)
	case signed.MatchString(s):
		return read(s)
	}
	return none()
}

func wantFloat(s string) float64 {
	if found := beginning.FindString(s); found != "" {
		return read(found)
	}
	return none()
}

func wantLiteral(s string) (float64, bool) {
	switch {
	case !literal.MatchString(s), octal.MatchString(s):
		return 0, false
	case hexadecimal.MatchString(s):
		return inBase(s[2:], 16), true
	}
	return read(s), true
}

// wantInt is what Nt7 says of Int of a text without white ahead.
func wantInt(s string, radix int) float64 {
	sign := 1.0
	if s != "" && (s[0] == '+' || s[0] == '-') {
		if s[0] == '-' {
			sign = -1
		}
		s = s[1:]
	}
	given := radix
	if radix == 0 {
		radix = 10
	}
	if radix < 2 || radix > 36 {
		return none()
	}
	if (given == 0 || given == 16) && (strings.HasPrefix(s, "0x") || strings.HasPrefix(s, "0X")) {
		s, radix = s[2:], 16
	}
	n := 0
	for n < len(s) {
		if d, err := strconv.ParseInt(s[n:n+1], 36, 64); err != nil || d >= int64(radix) {
			break
		}
		n++
	}
	if n == 0 {
		return none()
	}
	return math.Copysign(inBase(s[:n], radix), sign)
}

// checkRead holds all calls that read a text against what is wanted of it; it has
// no white at its ends.
func checkRead(t *testing.T, s string) {
	t.Helper()
	short := s[:min(len(s), 60)]
	for _, ends := range []string{"", " ", "\u00a0\n", "\ufeff\u2028\t"} {
		if x := numtext.Number(wide(ends + s + ends)); !same(x, wantNumber(s)) {
			t.Errorf("Number(%q): %v, want %v", short, x, wantNumber(s))
		}
		if x := numtext.Float(wide(ends + s + ends)); !same(x, wantFloat(s)) {
			t.Errorf("Float(%q): %v, want %v", short, x, wantFloat(s))
		}
		for _, radix := range []int{0, 10, 16, 2, 36} {
			if x := numtext.Int(wide(ends+s+ends), radix); !same(x, wantInt(s, radix)) {
				t.Errorf("Int(%q, %d): %v, want %v", short, radix, x, wantInt(s, radix))
			}
		}
	}
	want, is := wantLiteral(s)
	if x, ok := numtext.Literal(wide(s)); !same(x, want) || ok != is {
		t.Errorf("Literal(%q): %v, %v, want %v, %v", short, x, ok, want, is)
	}
}

// All texts of these units, up to five of them, and to six of some.
func TestNt6Nt7AllShortTexts(t *testing.T) {
	every := func(units string, most int) {
		last := []string{""}
		for range most {
			var next []string
			for _, s := range last {
				for i := range len(units) {
					checkRead(t, s+units[i:i+1])
					next = append(next, s+units[i:i+1])
				}
			}
			last = next
		}
	}
	checkRead(t, "")
	every("019.e-+x", 4)
	every("0.e-", 6)
	every("07aFxX", 4)
	for c := range 128 {
		s := string(rune(c))
		for _, text := range []string{"1" + s + "1", s + "1", "1" + s, "0x" + s + "1", "0x1" + s + "1", "1e" + s + "1", "." + s + "1", "-" + s + "1"} {
			if text == ustr.Encode(ustr.Trim(wide(text))) {
				checkRead(t, text)
			}
		}
	}
}

func TestNt6Number(t *testing.T) {
	rows := []struct {
		s    string
		want float64
	}{
		{"", 0}, {" ", 0}, {"\n\t \u2029", 0}, {"0", 0}, {"+0", 0}, {"-0", math.Copysign(0, -1)}, {"-0.0e5", math.Copysign(0, -1)}, {" -0 ", math.Copysign(0, -1)}, {"-1e-400", math.Copysign(0, -1)},
		{"1", 1}, {"+1", 1}, {"-1", -1}, {"12", 12}, {" 12 ", 12}, {"\n12\r\n", 12}, {"5.", 5}, {".5", 0.5}, {".5e1", 5}, {"5.e1", 50}, {"-.5", -0.5}, {"1e3", 1000}, {"1E3", 1000}, {"1e+3", 1000}, {"1e-3", 0.001},
		{"010", 10}, {"00", 0}, {"-010", -10}, {"08.5", 8.5}, {"0x1F", 31}, {"0X1f", 31}, {"0xabcdefABCDEF", 0xabcdefabcdef}, {" 0x10 ", 16}, {"0x0", 0}, {"0x00000000000000000000000000000001", 1},
		{"Infinity", math.Inf(1)}, {"+Infinity", math.Inf(1)}, {"-Infinity", math.Inf(-1)}, {" Infinity\n", math.Inf(1)}, {"1e400", math.Inf(1)}, {"-1e400", math.Inf(-1)},
		{"9007199254740993", 9007199254740992}, {"9007199254740995", 9007199254740996}, {"9007199254740993.0000000000000000000000000000001", 9007199254740994}, {"0x20000000000001", 9007199254740992}, {"0x20000000000003", 9007199254740996},
		{"0.1", 0.1}, {"123.456", 123.456}, {"4.9e-324", 5e-324}, {"2.4703282292062327e-324", 0}, {"2.4703282292062328e-324", 5e-324}, {"1.7976931348623157e308", math.MaxFloat64}, {"1.7976931348623158e308", math.MaxFloat64}, {"1.7976931348623159e308", math.Inf(1)},
		{"1e99999999999999999999999", math.Inf(1)}, {"1e-99999999999999999999999", 0}, {"0e99999999999999999999999", 0}, {"-0e99999999999999999999999", math.Copysign(0, -1)}, {"1e9223372036854775808", math.Inf(1)}, {"1e18446744073709551617", math.Inf(1)}, {"1e-4294967297", 0},
		{"97e20", 97e20}, {"1e0000000000000000000000000000000000000001", 10},
	}
	for _, row := range rows {
		if x := numtext.Number(wide(row.s)); !same(x, row.want) {
			t.Errorf("Number(%q): %v, want %v", row.s, x, row.want)
		}
	}
	for _, s := range []string{
		"-0x1F", "+0x1F", "0x", "0X", "0x ", "0xg", "0x1g", "0x1.8", "0x-1", "0x 1", "x1", "00x1", "1e", "1e+", "1e-", "e1", ".e1", ".", "-.", "+", "-", "--1", "+-1", "- 1", "+ 1", "1 2", "1-", "1.2.3", "1..2", "1e1.5", "1e1e1", "1e 1",
		"x", "infinity", "INFINITY", "Inf", "Infinit", "Infinityx", "Infinity1", "Infinity Infinity", "- Infinity", "++Infinity", "1Infinity", "NaN", "nan", "1_000", "1,000", "0b1", "0o7", "1f", "1n", "1px", "0x1p3", "１", "٣", "½", "1\x00", "\x001", "\u200b1", "1\u180d",
		"\u0131", "\u3100", "1\u0130", "\u012e5", "0\u01781", "\u0149nfinity", "1\u01650", "\u212a", "-\u0130",
	} {
		if x := numtext.Number(wide(s)); !same(x, none()) {
			t.Errorf("Number(%q): %v, %x", s, x, math.Float64bits(x))
		}
	}
}

// white are the units that Trim takes away.
func white() []uint16 {
	l := []uint16{0x09, 0x0A, 0x0B, 0x0C, 0x0D, 0x20, 0xA0, 0x1680, 0x180E, 0x2028, 0x2029, 0x202F, 0x205F, 0x3000, 0xFEFF}
	for u := uint16(0x2000); u <= 0x200A; u++ {
		l = append(l, u)
	}
	return l
}

// All units, ahead of a number, behind it, and within it.
func TestNt6Nt7White(t *testing.T) {
	is := map[uint16]bool{}
	for _, u := range white() {
		is[u] = true
	}
	one := ustr.Wide("1")
	for n := range 1 << 16 {
		u := uint16(n)
		if u < 0x80 && !is[u] {
			continue
		}
		s := ustr.Make([]uint16{u})
		ahead := none()
		if is[u] {
			ahead = 1
		}
		if x := numtext.Number(s + one); !same(x, ahead) {
			t.Errorf("Number: %04X ahead: %v", u, x)
		}
		if x := numtext.Number(one + s); !same(x, ahead) {
			t.Errorf("Number: %04X behind: %v", u, x)
		}
		if x := numtext.Number(one + s + one); !same(x, none()) {
			t.Errorf("Number: %04X within: %v", u, x)
		}
		for _, call := range []func(string) float64{numtext.Float, func(s string) float64 { return numtext.Int(s, 10) }, func(s string) float64 { return numtext.Int(s, 0) }} {
			if x := call(s + s + one); !same(x, ahead) {
				t.Errorf("%04X ahead: %v", u, x)
			}
			if x := call(one + s + one); x != 1 {
				t.Errorf("%04X within: %v", u, x)
			}
			if x := call(ustr.Wide("-") + s + one); !same(x, none()) {
				t.Errorf("%04X behind a sign: %v", u, x)
			}
		}
		for _, text := range []string{s, s + one, one + s, one + s + one} {
			if x, ok := numtext.Literal(text); !same(x, 0) || ok {
				t.Errorf("Literal: %04X: %v, %v", u, x, ok)
			}
		}
	}
}

func TestNt6Literal(t *testing.T) {
	rows := []struct {
		s    string
		want float64
	}{
		{"0", 0}, {"1", 1}, {"10", 10}, {"0.5", 0.5}, {"0.", 0}, {"0e1", 0}, {"0E5", 0}, {".5", 0.5}, {"5.", 5}, {"1.e3", 1000}, {"1e-2", 0.01}, {"0x1F", 31}, {"0X1f", 31}, {"0x00", 0}, {"0x0123", 0x123}, {".0123", 0.0123}, {"1e01", 10},
		{"9007199254740993", 9007199254740992}, {"1e400", math.Inf(1)}, {"1e-400", 0}, {"0." + strings.Repeat("0", 400) + "1e401", 1},
	}
	for _, row := range rows {
		if x, ok := numtext.Literal(wide(row.s)); !same(x, row.want) || !ok {
			t.Errorf("Literal(%q): %v, %v, want %v", row.s, x, ok, row.want)
		}
	}
	for _, s := range []string{"", "00", "01", "010", "08", "09.5", "00.5", "00x1", "01e1", "-1", "+1", "-0", "-0x1", "Infinity", "NaN", ".", "e1", "1e", "1e+", "0x", "0xg", "0x1g", " 1", "1 ", " 1 ", "\ufeff1", "1\n", "0x1 ", "1a", "1.5.", "0b1", "\u0131", "0\u01781"} {
		if x, ok := numtext.Literal(wide(s)); !same(x, 0) || ok {
			t.Errorf("Literal(%q): %v, %v", s, x, ok)
		}
	}
}

func TestNt7Float(t *testing.T) {
	rows := []struct {
		s    string
		want float64
	}{
		{"3.14abc", 3.14}, {"3.14", 3.14}, {" \n3.14 x", 3.14}, {"1 2", 1}, {"1.2.3", 1.2}, {"5.", 5}, {"5.x", 5}, {"5.e1", 50}, {".5", 0.5}, {".5.5", 0.5}, {"1e", 1}, {"1e+", 1}, {"1e-x", 1}, {"1e5x", 1e5}, {"1E+2e3", 100}, {"1.e", 1}, {"1.5e1.5", 15},
		{"0x1F", 0}, {"-0x1F", math.Copysign(0, -1)}, {"010", 10}, {"-0", math.Copysign(0, -1)}, {"-0abc", math.Copysign(0, -1)}, {"+0", 0}, {"+1", 1}, {"-1.5", -1.5}, {"-.5e", -0.5}, {"-1e-400", math.Copysign(0, -1)}, {"1_000", 1}, {"1,5", 1},
		{"Infinity", math.Inf(1)}, {"-Infinity", math.Inf(-1)}, {"+Infinityx", math.Inf(1)}, {"Infinity1", math.Inf(1)}, {" InfinityInfinity", math.Inf(1)}, {"1Infinity", 1}, {"1e400x", math.Inf(1)}, {"-1e400", math.Inf(-1)},
		{"9007199254740993x", 9007199254740992}, {"1\x00", 1}, {"1\u0131", 1}, {"1.\u0135", 1}, {"1e\u0135", 1},
	}
	for _, row := range rows {
		if x := numtext.Float(wide(row.s)); !same(x, row.want) {
			t.Errorf("Float(%q): %v, want %v", row.s, x, row.want)
		}
	}
	for _, s := range []string{"", " ", "x", "x1", ".", "-", "+", "-.", "+.e1", ".e5", "e5", "- 1", "+-1", "--1", "Infinit", "infinity", "-infinity", "NaN", "$1", "\x001", "\u200b1", "１", "\u0131", "\u0149nfinity"} {
		if x := numtext.Float(wide(s)); !same(x, none()) {
			t.Errorf("Float(%q): %v", s, x)
		}
	}
}

func TestNt7Int(t *testing.T) {
	rows := []struct {
		s     string
		radix int
		want  float64
	}{
		{"0x1f", 0, 31}, {"0X1F", 0, 31}, {"0x1f", 16, 31}, {"0X1F", 16, 31}, {"-0x1f", 0, -31}, {"+0x1f", 16, 31}, {"1f", 16, 31}, {"1F", 16, 31}, {"0x1f", 10, 0}, {"0x1f", 8, 0}, {"0x1f", 36, 42819}, {"0x1f", 33, 0}, {"0x1f", 34, 38197},
		{"12z", 10, 12}, {"12", 10, 12}, {"12", 0, 12}, {"010", 0, 10}, {"010", 10, 10}, {"010", 8, 8}, {"  -12.9", 10, -12}, {"1e3", 10, 1}, {"12 3", 10, 12}, {"+5", 10, 5}, {"-0", 10, math.Copysign(0, -1)}, {"-0", 0, math.Copysign(0, -1)}, {"-0x0", 0, math.Copysign(0, -1)}, {"0", 10, 0}, {"+0", 10, 0}, {"-00z", 10, math.Copysign(0, -1)},
		{"101", 2, 5}, {"102", 2, 2}, {"zZ", 36, 1295}, {"Zz!", 36, 1295}, {"z", 36, 35}, {"9", 36, 9}, {"a9", 11, 119}, {"a9b", 11, 119}, {"777", 8, 511}, {"778", 8, 63}, {"0x10", 36, 42804}, {"0b1", 2, 0}, {"0b1", 12, 133},
		{"9007199254740993", 10, 9007199254740992}, {"9007199254740995", 10, 9007199254740996}, {"0x20000000000001", 16, 9007199254740992}, {"100000000000000000000000000000000000000000000000000001", 2, 9007199254740992}, {"100000000000000000000000000000000000000000000000000011", 2, 9007199254740996},
		{"1" + strings.Repeat("0", 308), 10, 1e308}, {"1" + strings.Repeat("0", 309), 10, math.Inf(1)}, {"-1" + strings.Repeat("0", 309), 10, math.Inf(-1)}, {strings.Repeat("0", 5000) + "7", 10, 7}, {strings.Repeat("0", 5000), 10, 0},
		{"1" + strings.Repeat("0", 1023), 2, math.Ldexp(1, 1023)}, {"1" + strings.Repeat("0", 1024), 2, math.Inf(1)}, {strings.Repeat("1", 53) + strings.Repeat("0", 971), 2, math.MaxFloat64}, {strings.Repeat("1", 54) + strings.Repeat("0", 970), 2, math.Inf(1)}, {strings.Repeat("1", 53) + "0" + strings.Repeat("1", 970), 2, math.MaxFloat64},
	}
	for _, row := range rows {
		if x := numtext.Int(wide(row.s), row.radix); !same(x, row.want) {
			t.Errorf("Int(%.40q, %d): %v, want %v", row.s, row.radix, x, row.want)
		}
	}
	wrong := []struct {
		s     string
		radix int
	}{
		{"", 10}, {" ", 0}, {"-", 10}, {"+", 0}, {"z", 10}, {"x", 16}, {"g", 16}, {"0x", 16}, {"0x", 0}, {"0xg", 0}, {"-0X", 16}, {"0x 1", 16}, {"0x-1", 16}, {"2", 2}, {".5", 10}, {"- 1", 10}, {"--1", 10}, {"+-1", 10}, {"Infinity", 10}, {"NaN", 10}, {"１", 10}, {"\u0131", 10}, {"\x001", 10}, {"\u212a", 36},
		{"1", 1}, {"0", 1}, {"1", -1}, {"1", 37}, {"1", -10}, {"0x1", 1}, {"0x1", 37}, {"1", math.MinInt}, {"1", math.MaxInt}, {"1", 1 << 32}, {"1", 1<<32 + 10}, {"1", 256 + 10}, {"", 37}, {"x", -16},
	}
	for _, row := range wrong {
		if x := numtext.Int(wide(row.s), row.radix); !same(x, none()) {
			t.Errorf("Int(%q, %d): %v", row.s, row.radix, x)
		}
	}
}

// Each radix has just its digits, small ones and capitals.
func TestNt7IntDigits(t *testing.T) {
	for radix := 2; radix <= 36; radix++ {
		for c := range 0x250 {
			if c < 128 && strings.TrimSpace(string(rune(c))) == "" {
				continue
			}
			s := string(rune(c))
			if s == "\u00a0" {
				continue
			}
			want := none()
			if c < 128 {
				want = wantInt(s, radix)
			}
			if x := numtext.Int(wide(s), radix); !same(x, want) {
				t.Errorf("Int(%q, %d): %v, want %v", s, radix, x, want)
			}
		}
	}
	draw := draws()
	const digits = "0123456789abcdefghijklmnopqrstuvwxyzABCDEFGHIJKLMNOPQRSTUVWXYZ"
	for range 3000 {
		radix := int(draw()%35) + 2
		var b strings.Builder
		for range draw() % 300 {
			b.WriteByte(digits[draw()%62])
		}
		for _, s := range []string{b.String(), "0x" + b.String(), "-" + b.String()} {
			if x := numtext.Int(wide(s), radix); !same(x, wantInt(s, radix)) {
				t.Errorf("Int(%q, %d): %v, want %v", s, radix, x, wantInt(s, radix))
			}
		}
		if s := strings.Map(func(r rune) rune { return rune('0' + int(r)%min(radix, 10)) }, b.String()); s != "" {
			if x := numtext.Int(wide(s), radix); !same(x, inBase(s, radix)) {
				t.Errorf("Int(%q, %d): %v, want %v", s, radix, x, inBase(s, radix))
			}
		}
	}
}
