package value_test

import (
	"math"
	"slices"
	"strings"
	"sync"
	"testing"

	"quill/api"
	"quill/ustr"
	"quill/value"
)

// heard is what all calls tell of two values; floats by their bits.
type heard struct {
	check, number, text, loose, less, add api.Errno
	truth, strict, same, equal            bool
	bits                                  uint64
	typeOf, called, s                     string
	below                                 int
	sum                                   api.Value
	sumBits                               uint64
}

func calls(x, y api.Value) heard {
	h := heard{check: value.Check(x), truth: value.ToBoolean(x), typeOf: value.TypeOf(x, false), called: value.TypeOf(x, true), strict: value.Strict(x, y), same: value.Same(x, y)}
	n, errno := value.ToNumber(x)
	h.bits, h.number = math.Float64bits(n), errno
	h.s, h.text = value.ToString(x)
	h.equal, h.loose = value.Loose(x, y)
	h.below, h.less = value.Less(x, y)
	h.sum, h.add = value.Add(x, y)
	h.sumBits = math.Float64bits(h.sum.N)
	h.sum.N = 0
	return h
}

// anyTwo calls f with values of all sorts, such as may not be among them.
func anyTwo(f func(x, y api.Value)) {
	bad := wrong()
	l := append(values(), empty())
	for i, x := range bad {
		y, z := l[i%len(l)], bad[(i*31+7)%len(bad)]
		f(x, y)
		f(y, x)
		f(x, z)
		f(x, x)
	}
	for _, x := range l {
		for _, y := range l {
			f(x, y)
		}
	}
}

func TestR1NoPanic(t *testing.T) {
	anyTwo(func(x, y api.Value) { calls(x, y) })
	for _, x := range nans() {
		value.Number(x)
	}
	for _, o := range []int{math.MinInt, -1, 0, math.MaxInt} {
		value.Object(o)
	}
	for _, s := range []string{"", "\x00", "\xff\xff\xff"} {
		value.String(s)
	}
}

// Long texts, as numbers and held against each other.
func TestR1Ends(t *testing.T) {
	const size = 1 << 20
	for _, piece := range []string{"1", "0", " ", ".", "f", "e", "-", "a", "\xFF", "0x"} {
		v := narrow(strings.Repeat(piece, size))
		w := narrow(strings.Repeat(piece, size) + "1")
		if h := calls(v, w); h.check != api.OK || !h.truth || h.strict || h.same || h.equal || h.below != 1 || len(h.sum.S) != len(v.S)+len(w.S) {
			t.Errorf("of many times %q", piece)
		}
		if h := calls(v, number(1)); h.number != api.OK || h.loose != api.OK || h.less != api.OK || h.add != api.OK {
			t.Errorf("of many times %q and 1", piece)
		}
	}
	if x, errno := value.ToNumber(narrow("0." + strings.Repeat("0", size) + "1e1048577")); x != 1 || errno != api.OK {
		t.Errorf("of many noughts: %v, error %d", x, errno)
	}
}

// Beside an error there is nothing, and there is no error but ErrArg.
func TestR2NothingBesideErrors(t *testing.T) {
	met := 0
	hold := func(call string, errno api.Errno, zero bool, l ...api.Value) {
		if errno != api.OK {
			met++
			refused(t, call, errno, zero, l...)
		}
	}
	anyTwo(func(x, y api.Value) {
		h := calls(x, y)
		hold("Check", h.check, true, x)
		hold("ToNumber", h.number, h.bits == 0, x)
		hold("ToString", h.text, h.s == "", x)
		hold("Loose", h.loose, !h.equal, x, y)
		hold("Less", h.less, h.below == 0, x, y)
		hold("Add", h.add, h.sum == api.Value{} && h.sumBits == 0, x, y)
	})
	if met < 1000 {
		t.Errorf("%d errors were met", met)
	}
}

// What is told of values that may be is one itself: its other parts are zero, and of
// each NaN the one is told.
func TestR2Answers(t *testing.T) {
	l := many(300)
	for _, x := range l {
		if n, _ := value.ToNumber(x); math.IsNaN(n) && !same(n, none()) {
			t.Errorf("the number of %s: a NaN of other bits", shown(x))
		}
		for _, y := range l {
			if v, _ := value.Add(x, y); !mayBe(v) {
				t.Errorf("%s + %s: %+v may not be", shown(x), shown(y), v)
			}
		}
	}
}

func TestR4OnlyArguments(t *testing.T) {
	ask := func() []heard {
		var l []heard
		anyTwo(func(x, y api.Value) { l = append(l, calls(x, y)) })
		return l
	}
	first := ask()
	var all [4][]heard
	var group sync.WaitGroup
	for i := range all {
		group.Go(func() { all[i] = ask() })
	}
	group.Wait()
	for _, l := range all {
		if !slices.Equal(l, first) {
			t.Error("the same calls told something else")
		}
	}
}

// Texts that lie elsewhere are the same ones.
func TestR4Copies(t *testing.T) {
	for _, c := range textCards() {
		far := text(strings.Clone(c.v.S))
		if !value.Strict(c.v, far) || !value.Same(c.v, far) || calls(c.v, far) != calls(far, c.v) {
			t.Errorf("%s and its copy", shown(c.v))
		}
	}
}

// Sums are rounded to the nearest float, of two as near the even one; texts stand by
// their units: a pair is ahead of FFFF, and 0100 behind 00FF.
func TestR5(t *testing.T) {
	for _, row := range []struct{ x, y, want float64 }{
		{1 << 53, 1, 1 << 53}, {1<<53 + 2, 1, 1<<53 + 4}, {-1 << 53, -1, -1 << 53}, {-1<<53 - 2, -1, -1<<53 - 4}, {1, math.Ldexp(1, -53), 1}, {1, math.Ldexp(1.5, -53), 1 + math.Ldexp(1, -52)}, {math.MaxFloat64, math.Ldexp(1, 969), math.MaxFloat64}, {math.MaxFloat64, math.Ldexp(1, 970), math.Inf(1)}, {5e-324, 5e-324, 1e-323},
	} {
		if v, errno := value.Add(number(row.x), number(row.y)); !alike(v, number(row.want)) || errno != api.OK {
			t.Errorf("%v + %v: %v", row.x, row.y, v.N)
		}
	}
	l := []api.Value{text(""), units(0), units(0, 0), units(0x00FF), units(0x0100), units(0x01FF), units(0xD83D), units(0xD83D, 0xDE00), units(0xD83E), units(0xFF00), units(0xFFFF)}
	for i, x := range l {
		for j, y := range l {
			if n, errno := value.Less(x, y); n != count(i < j) || errno != api.OK {
				t.Errorf("%s < %s: %d", ustr.Encode(x.S), ustr.Encode(y.S), n)
			}
		}
	}
}
