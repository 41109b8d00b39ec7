package number_test

import (
	"math"
	"math/big"
	"slices"
	"strings"
	"testing"

	"quill/api"
	"quill/number"
)

func isNone(x, y float64) bool { return math.IsNaN(x) || math.IsNaN(y) }

// signed is an amount with a sign that is set just if one of x's and y's is.
func signed(amount, x, y float64) float64 {
	amount = math.Abs(amount)
	if math.Signbit(x) != math.Signbit(y) {
		return -amount
	}
	return amount
}

// The operators as ECMA-262 has them, by the library's fractions.

func sum(x, y float64) float64 {
	switch {
	case isNone(x, y) || math.IsInf(x, 0) && math.IsInf(y, 0) && x != y:
		return none()
	case math.IsInf(x, 0):
		return x
	case math.IsInf(y, 0):
		return y
	case x == 0 && y == 0 && math.Signbit(x) && math.Signbit(y):
		return minus0()
	}
	return nearest(new(big.Rat).Add(exact(x), exact(y)), 1)
}

func difference(x, y float64) float64 { return sum(x, -y) }

func product(x, y float64) float64 {
	switch {
	case isNone(x, y) || math.IsInf(x, 0) && y == 0 || x == 0 && math.IsInf(y, 0):
		return none()
	case math.IsInf(x, 0) || math.IsInf(y, 0):
		return signed(math.Inf(1), x, y)
	}
	return signed(nearest(new(big.Rat).Mul(exact(x), exact(y)), 1), x, y)
}

func quotient(x, y float64) float64 {
	switch {
	case isNone(x, y) || math.IsInf(x, 0) && math.IsInf(y, 0) || x == 0 && y == 0:
		return none()
	case math.IsInf(x, 0) || y == 0:
		return signed(math.Inf(1), x, y)
	case math.IsInf(y, 0):
		return signed(0, x, y)
	}
	return signed(nearest(new(big.Rat).Quo(exact(x), exact(y)), 1), x, y)
}

func rest(x, y float64) float64 {
	switch {
	case isNone(x, y) || math.IsInf(x, 0) || y == 0:
		return none()
	case math.IsInf(y, 0) || x == 0:
		return x
	}
	whole := new(big.Rat).SetInt(towards0(new(big.Rat).Quo(exact(x), exact(y))))
	return nearest(whole.Sub(exact(x), whole.Mul(whole, exact(y))), x)
}

// signed32 is 32 bits as a number with a sign.
func signed32(n uint64) float64 {
	n %= 1 << 32
	if n >= 1<<31 {
		return float64(int64(n) - 1<<32)
	}
	return float64(n)
}

// power is 2 to y modulo 32.
func power(y float64) uint64 {
	p := uint64(1)
	for range wrapped(y) % 32 {
		p *= 2
	}
	return p
}

func left(x, y float64) float64  { return signed32(uint64(wrapped(x)) * power(y)) }
func right(x, y float64) float64 { return math.Floor(signed32(uint64(wrapped(x))) / float64(power(y))) }
func unsigned(x, y float64) float64 {
	return math.Floor(float64(wrapped(x)) / float64(power(y)))
}

// bitwise is each bit by a rule of how many of both are set.
func bitwise(rule func(set uint32) bool) func(x, y float64) float64 {
	return func(x, y float64) float64 {
		a, b, n := wrapped(x), wrapped(y), uint64(0)
		for i := range 32 {
			if rule(a>>i%2 + b>>i%2) {
				n += 1 << i
			}
		}
		return signed32(n)
	}
}

// binary is an operator, and what it makes of two numbers.
type binary struct {
	op   string
	want func(x, y float64) float64
}

func binaries() []binary {
	return []binary{
		{"+", sum}, {"-", difference}, {"*", product}, {"/", quotient}, {"%", rest},
		{"<<", left}, {">>", right}, {">>>", unsigned},
		{"&", bitwise(func(set uint32) bool { return set == 2 })},
		{"|", bitwise(func(set uint32) bool { return set > 0 })},
		{"^", bitwise(func(set uint32) bool { return set == 1 })},
	}
}

func checkBinary(t *testing.T, op string, x, y, want float64) {
	t.Helper()
	if z, errno := number.Binary(op, x, y); !same(z, want) || errno != api.OK {
		t.Errorf("%v %s %v: %v (%x), error %d, want %v", x, op, y, z, math.Float64bits(z), errno, want)
	}
}

func TestNu2HeldAgainstFractions(t *testing.T) {
	l := slices.Concat(edges(), nans(), []float64{math.Inf(1), math.Inf(-1)})
	for _, b := range binaries() {
		for i, x := range l {
			// Each third: all pairs would take long.
			for j := i % 3; j < len(l); j += 3 {
				checkBinary(t, b.op, x, l[j], b.want(x, l[j]))
			}
		}
	}
}

func TestNu2Drawn(t *testing.T) {
	draw := draws()
	l := finite(1000)
	for range 3000 {
		x := l[draw()%uint64(len(l))]
		// Far, near, and as near that few bits are left.
		for _, y := range []float64{l[draw()%uint64(len(l))], math.Float64frombits(math.Float64bits(x) + draw()%64 - 32), math.Ldexp(x, int(draw()%140)-70), float64(draw()%100) - 50} {
			for _, b := range binaries() {
				checkBinary(t, b.op, x, y, b.want(x, y))
			}
		}
	}
}

func TestNu2Reckoning(t *testing.T) {
	inf := math.Inf(1)
	for _, row := range []struct {
		op         string
		x, y, want float64
	}{
		{"+", 1, 1, 2}, {"+", 0.1, 0.2, 0.30000000000000004}, {"+", minus0(), minus0(), minus0()}, {"+", minus0(), 0, 0}, {"+", 1, -1, 0}, {"+", inf, -inf, none()}, {"+", -inf, inf, none()}, {"+", inf, inf, inf},
		{"+", 1 << 53, 1, 1 << 53}, {"+", 1<<53 + 2, 1, 1<<53 + 4}, {"+", math.MaxFloat64, math.MaxFloat64, inf}, {"+", math.MaxFloat64, math.Ldexp(1, 969), math.MaxFloat64}, {"+", math.MaxFloat64, math.Ldexp(1, 970), inf},
		{"-", 3, 5, -2}, {"-", 1, 1, 0}, {"-", 0, 0, 0}, {"-", minus0(), 0, minus0()}, {"-", inf, inf, none()}, {"-", -inf, -inf, none()}, {"-", 0.3, 0.1, 0.19999999999999998}, {"-", 5, inf, -inf},
		{"*", 3, -4, -12}, {"*", -1, 0, minus0()}, {"*", minus0(), minus0(), 0}, {"*", inf, 0, none()}, {"*", 0, -inf, none()}, {"*", inf, -2, -inf}, {"*", 1e200, 1e200, inf}, {"*", 1e-200, -1e-200, minus0()},
		{"*", 5e-324, 0.5, 0}, {"*", 5e-324, 0.75, 5e-324}, {"*", 1.5e-323, 0.5, 1e-323}, {"*", 0.1, 3, 0.30000000000000004},
		{"/", 1, 3, 0.3333333333333333}, {"/", 1, 0, inf}, {"/", 1, minus0(), -inf}, {"/", -1, 0, -inf}, {"/", 0, 0, none()}, {"/", inf, inf, none()}, {"/", 0, -5, minus0()}, {"/", 5, -inf, minus0()}, {"/", inf, 0, inf}, {"/", 5e-324, 2, 0},
		{"%", 5.5, 2, 1.5}, {"%", -4, 2, minus0()}, {"%", 4, -2, 0}, {"%", -5, 3, -2}, {"%", 5, -3, 2}, {"%", -5, -3, -2}, {"%", 0, 5, 0}, {"%", minus0(), 5, minus0()}, {"%", minus0(), -inf, minus0()},
		{"%", 5, inf, 5}, {"%", -5, -inf, -5}, {"%", 5, 0, none()}, {"%", 5, minus0(), none()}, {"%", inf, 5, none()}, {"%", -inf, inf, none()}, {"%", 0, 0, none()}, {"%", inf, 0, none()},
		{"%", 0.3, 0.1, 0.09999999999999998}, {"%", 1e300, 7, 1}, {"%", math.MaxFloat64, 5e-324, 0}, {"%", -math.MaxFloat64, 5e-324, minus0()}, {"%", 1e-323, 1.5e-323, 1e-323}, {"%", 1, 1, 0},
	} {
		checkBinary(t, row.op, row.x, row.y, row.want)
	}
}

func TestNu2Bits(t *testing.T) {
	inf := math.Inf(1)
	for _, row := range []struct {
		op         string
		x, y, want float64
	}{
		{"<<", 1, 33, 2}, {"<<", 1, 31, -1 << 31}, {"<<", 1, 32, 1}, {"<<", 3, 31, -1 << 31}, {"<<", -1, 1, -2}, {"<<", 1, -1, -1 << 31}, {"<<", 1 << 32, 1, 0}, {"<<", 1.9, 1.9, 2}, {"<<", minus0(), 0, 0}, {"<<", 1<<31 - 1, 1, -2},
		{"<<", math.NaN(), 5, 0}, {"<<", 5, math.NaN(), 5}, {"<<", 5, inf, 5}, {"<<", -inf, 1, 0}, {"<<", 1<<31 + 1, 1, 2}, {"<<", 5, 1<<32 + 1, 10}, {"<<", 1, -31, 2},
		{">>", -8, 1, -4}, {">>", -1, 31, -1}, {">>", -1, 32, -1}, {">>", 1 << 31, 31, -1}, {">>", 1<<31 - 1, 30, 1}, {">>", 5, 1, 2}, {">>", -5, 1, -3}, {">>", 1<<32 - 1, 0, -1}, {">>", minus0(), 3, 0}, {">>", -1.9, 0, -1}, {">>", -8, -31, -4},
		{">>>", -1, 28, 15}, {">>>", -1, 0, 1<<32 - 1}, {">>>", -1, 32, 1<<32 - 1}, {">>>", 1 << 31, 31, 1}, {">>>", 1 << 31, 0, 1 << 31}, {">>>", minus0(), 0, 0}, {">>>", math.NaN(), 1, 0}, {">>>", inf, 0, 0}, {">>>", -1, -1, 1}, {">>>", 1 << 32, 0, 0},
		{"&", 5, 3, 1}, {"&", -1, 1<<31 - 1, 1<<31 - 1}, {"&", -1, 1 << 31, -1 << 31}, {"&", 1<<32 - 1, -1, -1}, {"&", math.NaN(), -1, 0}, {"&", 5.9, 7.9, 5}, {"&", minus0(), minus0(), 0},
		{"|", 5, 3, 7}, {"|", 0, 1 << 31, -1 << 31}, {"|", 1 << 32, 0, 0}, {"|", math.NaN(), inf, 0}, {"|", 1<<53 - 1, 0, -1}, {"|", -0.5, 0, 0}, {"|", minus0(), minus0(), 0},
		{"^", 5, 3, 6}, {"^", -1, 0, -1}, {"^", -1, -1, 0}, {"^", 1 << 31, 1, -1<<31 + 1}, {"^", math.NaN(), 7, 7}, {"^", 7, -inf, 7},
	} {
		checkBinary(t, row.op, row.x, row.y, row.want)
	}
}

func TestNu2Shifts(t *testing.T) {
	for _, x := range []float64{1, -1, 0x55555555, 0x7FFFFFFF, 0x80000000, 0xDEADBEEF, -0x12345678, 3e10} {
		for n := -70.0; n <= 70; n += 0.5 {
			for _, b := range binaries()[5:8] {
				checkBinary(t, b.op, x, n, b.want(x, n))
				checkBinary(t, b.op, x, n+1<<32, b.want(x, n+1<<32))
				if n == math.Trunc(n) {
					checkBinary(t, b.op, x, n+1<<32, b.want(x, n))
				}
			}
		}
	}
}

func TestNu2Unary(t *testing.T) {
	for _, row := range []struct {
		op      string
		x, want float64
	}{
		{"-", 0, minus0()}, {"-", minus0(), 0}, {"-", 5, -5}, {"-", math.Inf(1), math.Inf(-1)}, {"-", math.Inf(-1), math.Inf(1)}, {"-", 5e-324, -5e-324},
		{"+", 0, 0}, {"+", minus0(), minus0()}, {"+", -5.5, -5.5}, {"+", math.Inf(-1), math.Inf(-1)}, {"+", 1 << 53, 1 << 53},
		{"~", 0, -1}, {"~", minus0(), -1}, {"~", -1, 0}, {"~", 5, -6}, {"~", 5.9, -6}, {"~", -5.9, 4}, {"~", 1 << 31, 1<<31 - 1}, {"~", 1<<31 - 1, -1 << 31}, {"~", 1<<32 - 1, 0}, {"~", 1 << 32, -1}, {"~", math.NaN(), -1}, {"~", math.Inf(1), -1}, {"~", math.Inf(-1), -1},
	} {
		if z, errno := number.Unary(row.op, row.x); !same(z, row.want) || errno != api.OK {
			t.Errorf("%s %v: %v, error %d, want %v", row.op, row.x, z, errno, row.want)
		}
	}
	for _, x := range finite(1000) {
		for _, row := range []struct {
			op   string
			want float64
		}{{"+", x}, {"-", math.Float64frombits(math.Float64bits(x) ^ 1<<63)}, {"~", signed32(1<<32 - 1 - uint64(wrapped(x)))}} {
			if z, errno := number.Unary(row.op, x); !same(z, row.want) || errno != api.OK {
				t.Errorf("%s %v: %v, error %d, want %v", row.op, x, z, errno, row.want)
			}
		}
	}
}

// Each NaN that is told has the same bits, whatever those of the operands are.
func TestNu2NaNs(t *testing.T) {
	told := func(op string, z float64, errno api.Errno) {
		if !same(z, none()) || errno != api.OK {
			t.Errorf("%s: %v (%x), error %d", op, z, math.Float64bits(z), errno)
		}
	}
	for _, x := range nans() {
		for _, op := range []string{"+", "-", "*", "/", "%"} {
			for _, y := range slices.Concat(nans(), []float64{0, 1, -1, math.Inf(1), math.Inf(-1)}) {
				z, errno := number.Binary(op, x, y)
				told(op, z, errno)
				z, errno = number.Binary(op, y, x)
				told(op, z, errno)
			}
		}
		for _, op := range []string{"+", "-"} {
			z, errno := number.Unary(op, x)
			told(op, z, errno)
		}
	}
}

// wrongOps are no operators of numbers at all.
func wrongOps() []string {
	return []string{
		"", " ", "+ ", " +", "++", "--", "+-", "**", "//", "%%", "<", ">", "<=", ">=", "<<<", ">>>>", "> >", "==", "===", "!=", "!", "&&", "||", "^^", "=", "+=", "&=", ">>=", "in", "typeof", "void", "add", "x",
		"\x00+", "+\x00", "\x00>\x00>", "\x00", "\xff", "＋", "−", "×", "÷", strings.Repeat("+", 1000), strings.Repeat(">", 1<<20),
	}
}

func TestNu2WrongOps(t *testing.T) {
	numbers := []float64{0, 1, minus0(), math.Inf(1), math.NaN()}
	refused := func(op string, z float64, errno api.Errno) {
		if !same(z, 0) || errno != api.ErrArg {
			t.Errorf("%q: %v, error %d", op[:min(len(op), 20)], z, errno)
		}
	}
	for _, x := range numbers {
		for _, y := range numbers {
			for _, op := range append(wrongOps(), "~") {
				z, errno := number.Binary(op, x, y)
				refused(op, z, errno)
			}
		}
		for _, op := range append(wrongOps(), "*", "/", "%", "<<", ">>", ">>>", "&", "|", "^") {
			z, errno := number.Unary(op, x)
			refused(op, z, errno)
		}
	}
}

// All texts of up to three of the operators' bytes are operators, or are refused.
func TestNu2AllShortOps(t *testing.T) {
	signs := "+-*/%<>&|^~=! "
	all, begun := []string{""}, 0
	for range 3 {
		for _, s := range all[begun:] {
			begun++
			for _, c := range []byte(signs) {
				all = append(all, s+string(c))
			}
		}
	}
	for _, op := range all {
		_, errno := number.Binary(op, 7, 2)
		known := slices.ContainsFunc(binaries(), func(b binary) bool { return b.op == op })
		if known != (errno == api.OK) {
			t.Errorf("Binary %q: error %d", op, errno)
		}
		_, errno = number.Unary(op, 7)
		if known := op == "+" || op == "-" || op == "~"; known != (errno == api.OK) {
			t.Errorf("Unary %q: error %d", op, errno)
		}
	}
}
