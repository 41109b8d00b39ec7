package numtext_test

import (
	"math"
	"math/big"
	"strconv"
	"strings"
	"testing"

	"quill/numtext"
)

// checkDecimal holds what all calls read of a decimal against the float wanted.
func checkDecimal(t *testing.T, s string, want float64) {
	t.Helper()
	short := s[:min(len(s), 80)]
	if x := numtext.Number(wide(s)); !same(x, want) {
		t.Errorf("Number(%q): %v, want %v", short, x, want)
	}
	if x := numtext.Number(wide("-" + s)); !same(x, math.Copysign(want, -1)) {
		t.Errorf("Number(-%q): %v, want %v", short, x, -want)
	}
	if x := numtext.Float(wide(s + "x")); !same(x, want) {
		t.Errorf("Float(%q): %v, want %v", short, x, want)
	}
	if x, ok := numtext.Literal(wide(s)); !same(x, want) || !ok {
		t.Errorf("Literal(%q): %v, %v, want %v", short, x, ok, want)
	}
}

// decimals is the number n times 10^ten, written in several ways.
func decimals(n *big.Int, ten int) []string {
	s := n.String()
	e := strconv.Itoa(ten)
	return []string{
		s + "e" + e, s + "000E" + strconv.Itoa(ten-3), s + ".000e" + e,
		s[:1] + "." + s[1:] + "e" + strconv.Itoa(ten+len(s)-1),
		"." + strings.Repeat("0", 50) + s + "e" + strconv.Itoa(ten+len(s)+50),
	}
}

// halfWay is the number half way between a float above 0 and the next one, as a
// whole number times 10^n.
func halfWay(x float64) (*big.Int, int) {
	next := new(big.Rat)
	if x == math.MaxFloat64 {
		next.SetInt(new(big.Int).Lsh(big.NewInt(1), 1024))
	} else {
		next = exact(math.Nextafter(x, math.Inf(1)))
	}
	half := next.Add(next, exact(x))
	half.Quo(half, big.NewRat(2, 1))
	// The divisor is a power of 2: as many fives make it a power of 10.
	n := half.Denom().BitLen() - 1
	fives := new(big.Int).Exp(big.NewInt(5), big.NewInt(int64(n)), nil)
	return new(big.Int).Mul(half.Num(), fives), -n
}

// Between each float and the next one: half of the way is read as the even one;
// the least bit more, or less, as the nearer one.
func TestNt6Halves(t *testing.T) {
	check := func(x float64) {
		t.Helper()
		next := math.Nextafter(x, math.Inf(1))
		even := x
		if math.Float64bits(x)&1 == 1 {
			even = next
		}
		n, ten := halfWay(x)
		for _, s := range decimals(n, ten) {
			checkDecimal(t, s, even)
		}
		// Beyond all digits that are ever looked at, one by one.
		for _, far := range []int{1, 3, 30, 1000} {
			scaled := new(big.Int).Mul(n, new(big.Int).Exp(big.NewInt(10), big.NewInt(int64(far)), nil))
			more := new(big.Int).Add(scaled, big.NewInt(1))
			less := new(big.Int).Sub(scaled, big.NewInt(1))
			checkDecimal(t, more.String()+"e"+strconv.Itoa(ten-far), next)
			checkDecimal(t, less.String()+"e"+strconv.Itoa(ten-far), x)
		}
	}
	for _, x := range []float64{
		5e-324, 1e-323, 1.5e-323, math.Ldexp(1, -1022), math.Nextafter(math.Ldexp(1, -1022), 0), math.Nextafter(math.Nextafter(math.Ldexp(1, -1022), 0), 0), math.Ldexp(1, -1021),
		math.Ldexp(3, -1060), 1e-300, 0.1, 0.5, 1, 1.5, math.Nextafter(1, 2), math.Nextafter(1, 0), 9007199254740991, 9007199254740992, 9007199254740994, 1e22, 1e23, 1e300, math.Ldexp(1, 1023), math.MaxFloat64, math.Nextafter(math.MaxFloat64, 0),
	} {
		check(x)
	}
	for _, x := range drawn(10) {
		check(x)
	}
	for _, x := range halfWays() {
		check(x)
	}
	for i, x := range powers() {
		if i%50 < 3 {
			check(x)
		}
	}
}

// Half of the least float, and what lies around it.
func TestNt6Least(t *testing.T) {
	half := new(big.Int).Exp(big.NewInt(5), big.NewInt(1075), nil) // 2^-1075 is it times 10^-1075
	for _, s := range decimals(half, -1075) {
		checkDecimal(t, s, 0)
	}
	more := new(big.Int).Add(half, big.NewInt(1))
	for _, s := range decimals(more, -1075) {
		checkDecimal(t, s, 5e-324)
	}
	checkDecimal(t, half.String()+strings.Repeat("0", 2000)+"1e-3076", 5e-324)
	checkDecimal(t, half.String()+strings.Repeat("0", 2000)+"0e-3076", 0)
	checkDecimal(t, "3e-324", 5e-324)
	checkDecimal(t, "2e-324", 0)
	checkDecimal(t, "9e-325", 0)
	checkDecimal(t, "1e-324", 0)
	checkDecimal(t, "1e-323", 1e-323)
}

// From 2^1024 less 2^970 on there is the infinity.
func TestNt6Most(t *testing.T) {
	bound := new(big.Int).Sub(new(big.Int).Lsh(big.NewInt(1), 1024), new(big.Int).Lsh(big.NewInt(1), 970))
	less := new(big.Int).Sub(bound, big.NewInt(1))
	for _, s := range decimals(bound, 0) {
		checkDecimal(t, s, math.Inf(1))
	}
	for _, s := range append(decimals(less, 0), less.String()+"."+strings.Repeat("9", 2000)) {
		checkDecimal(t, s, math.MaxFloat64)
	}
	for _, row := range []struct {
		n    *big.Int
		want float64
	}{{bound, math.Inf(1)}, {less, math.MaxFloat64}} {
		if x := numtext.Number(wide("0x" + row.n.Text(16))); x != row.want {
			t.Errorf("Number of 0x%x: %v", row.n, x)
		}
		for radix := 2; radix <= 36; radix++ {
			if x := numtext.Int(wide(row.n.Text(radix)), radix); x != row.want {
				t.Errorf("Int of %x in %d: %v", row.n, radix, x)
			}
		}
	}
	checkDecimal(t, "1e308", 1e308)
	checkDecimal(t, "9e308", math.Inf(1))
	checkDecimal(t, "1e309", math.Inf(1))
	checkDecimal(t, strings.Repeat("9", 309), math.Inf(1))
	checkDecimal(t, strings.Repeat("9", 308), 1e308)
}

// As many noughts as exponents make up for.
func TestNt6Long(t *testing.T) {
	for _, n := range []int{400, 1000, 20000, 1 << 20} {
		e := strconv.Itoa(n)
		noughts := strings.Repeat("0", n)
		checkDecimal(t, "1"+noughts+"e-"+e, 1)
		checkDecimal(t, "1"+noughts+".5e-"+e, 1)
		checkDecimal(t, "."+noughts+"15e"+e, 0.15)
		checkDecimal(t, "1.5"+noughts, 1.5)
		checkDecimal(t, "0."+noughts, 0)
		checkDecimal(t, "1e"+noughts+"2", 100)
		checkDecimal(t, "1e-"+noughts+"2", 0.01)
		checkDecimal(t, "."+strings.Repeat("3", n)+"e1", read("."+strings.Repeat("3", min(n, 900))+"e1"))
		if x := numtext.Number(wide(noughts + "7")); x != 7 {
			t.Errorf("noughts ahead: %v", x)
		}
		if x := numtext.Number(wide("0x" + noughts + "7")); x != 7 {
			t.Errorf("noughts ahead: %v", x)
		}
	}
}

// Drawn decimals of all lengths and exponents, against the library.
func TestNt6Drawn(t *testing.T) {
	draw := draws()
	for range 20000 {
		var b strings.Builder
		b.WriteByte(byte('1' + draw()%9))
		for range draw() % 40 {
			b.WriteByte(byte('0' + draw()%10))
		}
		s := b.String()
		at := int(draw() % uint64(len(s)+1))
		s = s[:at] + "." + s[at:] + "e" + strconv.Itoa(int(draw()%700)-350)
		if s[0] == '0' {
			continue
		}
		checkDecimal(t, s, read(s))
	}
	for _, x := range drawn(3000) {
		for _, digits := range []int{0, 5, 15, 16, 17, 18, 30} {
			s := strconv.FormatFloat(x, 'e', digits, 64)
			checkDecimal(t, s, read(s))
		}
	}
}
