package bignum_test

import (
	"math"
	"slices"
	"strings"
	"sync"
	"testing"

	"quill/api"
	"quill/bignum"
)

// told is what all calls tell of some arguments.
type told struct {
	lists   [][]uint32
	text    string
	float   uint64 // its bits
	numbers []int
}

func equal(x, y told) bool {
	return slices.EqualFunc(x.lists, y.lists, slices.Equal) && x.text == y.text && x.float == y.float && slices.Equal(x.numbers, y.numbers)
}

// calls is what all calls tell of these arguments.
func calls(a, b []uint32, n int, s string, x float64) told {
	sum, e0 := bignum.Add(a, b)
	difference, e1 := bignum.Sub(a, b)
	product, e2 := bignum.Mul(a, b)
	quotient, rest, e3 := bignum.Div(a, b)
	left, e4 := bignum.Shl(a, n)
	right, lost := bignum.Shr(a, n)
	power, e5 := bignum.Pow(uint32(len(b)), n)
	text, e6 := bignum.Text(a, n)
	parsed, e7 := bignum.Parse(s, n)
	parts, e, e8 := bignum.Parts(x)
	numbers := []int{bignum.Cmp(a, b), bignum.Bits(a), e, 0}
	if lost {
		numbers[3] = 1
	}
	for _, errno := range []api.Errno{e0, e1, e2, e3, e4, e5, e6, e7, e8} {
		numbers = append(numbers, int(errno))
	}
	of := bignum.Of(math.Float64bits(x))
	return told{
		lists:   [][]uint32{sum, difference, product, quotient, rest, left, right, power, parsed, parts, of, bignum.Norm(a)},
		text:    text,
		float:   math.Float64bits(bignum.Float(a)),
		numbers: numbers,
	}
}

// anyLists are naturals, lists that end with words of 0, and such as are too long.
func anyLists() [][]uint32 {
	return [][]uint32{
		nil, {}, {0}, {0, 0, 0}, {1}, {7, 0}, {math.MaxUint32, math.MaxUint32}, {0, 0, 0x80000000},
		full(api.MaxWords), top(api.MaxWords), full(api.MaxWords + 1), top(api.MaxWords + 1),
		make([]uint32, api.MaxWords+1), append(full(api.MaxWords), 0, 0), top(3 * api.MaxWords),
	}
}

func anyNumbers() []int {
	return []int{
		math.MinInt, math.MinInt + 1, -33, -1, 0, 1, 2, 10, 31, 32, 36, 37, 32*api.MaxWords - 1, 32 * api.MaxWords,
		math.MaxInt / 2, math.MaxInt - 31, math.MaxInt - 1, math.MaxInt,
	}
}

func anyTexts() []string {
	return []string{"", "0", "1", "zZ9", "\x00", "\xff\xfe", "１", "12!", strings.Repeat("1", 40000), strings.Repeat("0", 40000)}
}

func anyFloats() []float64 {
	return []float64{
		0, math.Copysign(0, -1), 1, -1, 0.75, math.MaxFloat64, -math.MaxFloat64, math.SmallestNonzeroFloat64,
		math.Inf(1), math.Inf(-1), math.NaN(), math.Float64frombits(0xFFFFFFFFFFFFFFFF),
	}
}

// each calls f with arguments of all kinds: each two lists with a number each,
// and each text and float with each number.
func each(f func(a, b []uint32, n int, s string, x float64)) {
	all, numbers, texts, floats := anyLists(), anyNumbers(), anyTexts(), anyFloats()
	for i, a := range all {
		for j, b := range all {
			k := i*len(all) + j
			f(a, b, numbers[k%len(numbers)], texts[k%len(texts)], floats[k%len(floats)])
		}
		for j, n := range numbers {
			f(a, all[(i+j)%len(all)], n, texts[(i+j)%len(texts)], floats[(i+j)%len(floats)])
		}
	}
}

func TestR1NoPanic(t *testing.T) {
	each(func(a, b []uint32, n int, s string, x float64) { calls(a, b, n, s, x) })
	// What could take long: a long power, a long text, a long shift.
	for range 1000 {
		if l, errno := bignum.Pow(3, math.MaxInt); len(l) != 0 || errno != api.ErrLong {
			t.Fatalf("Pow: %d", errno)
		}
		if l, errno := bignum.Shl([]uint32{1}, math.MaxInt); len(l) != 0 || errno != api.ErrLong {
			t.Fatalf("Shl: %d", errno)
		}
	}
	if l, errno := bignum.Parse(strings.Repeat("z", 1<<26), 36); len(l) != 0 || errno != api.ErrLong {
		t.Errorf("Parse: %d", errno)
	}
	if x := bignum.Float(full(1 << 22)); !math.IsInf(x, 1) {
		t.Errorf("Float: %v", x)
	}
}

// Beside each error there is nothing, and the first one that the chapter names
// is told.
func TestR2(t *testing.T) {
	each(func(a, b []uint32, n int, s string, x float64) {
		all := calls(a, b, n, s, x)
		errnos := all.numbers[4:]
		for i, list := range []int{0, 1, 2, 3, 5, 7, -1, 8, 9} { // where the list is that stands beside an error
			if list >= 0 && errnos[i] != 0 && len(all.lists[list]) != 0 {
				t.Errorf("a list beside error %d of call %d", errnos[i], i)
			}
		}
		if errnos[3] != 0 && len(all.lists[4]) != 0 || errnos[6] != 0 && all.text != "" || errnos[8] != 0 && all.numbers[2] != 0 {
			t.Errorf("an answer beside an error: %v", all.numbers)
		}
	})
	if _, errno := bignum.Sub(nil, top(api.MaxWords+1)); errno != api.ErrLong {
		t.Errorf("Sub: %d", errno)
	}
	if _, _, errno := bignum.Div(top(api.MaxWords+1), nil); errno != api.ErrLong {
		t.Errorf("Div: %d", errno)
	}
	if _, errno := bignum.Shl(top(api.MaxWords+1), -1); errno != api.ErrLong {
		t.Errorf("Shl: %d", errno)
	}
	if _, errno := bignum.Text(top(api.MaxWords+1), 1); errno != api.ErrArg {
		t.Errorf("Text: %d", errno)
	}
	if _, errno := bignum.Parse("", 1); errno != api.ErrArg {
		t.Errorf("Parse: %d", errno)
	}
	if _, errno := bignum.Parse(strings.Repeat("1", 70000)+"!", 10); errno != api.ErrNone {
		t.Errorf("Parse: %d", errno)
	}
}

// roomy is the list with words behind its end, and the whole of both.
func roomy(a []uint32) ([]uint32, []uint32) {
	whole := append(slices.Clone(a), 0xA, 0, 0xB)
	return whole[:len(a)], whole
}

func TestR3ArgumentsAreLeft(t *testing.T) {
	each(func(a, b []uint32, n int, s string, x float64) {
		a1, whole1 := roomy(a)
		b1, whole2 := roomy(b)
		before1, before2 := slices.Clone(whole1), slices.Clone(whole2)
		first := calls(a1, b1, n, s, x)
		if !slices.Equal(whole1, before1) || !slices.Equal(whole2, before2) {
			t.Fatalf("arguments changed: %d and %d words, %d", len(a), len(b), n)
		}
		if !equal(first, calls(a, b, n, s, x)) {
			t.Fatalf("what lies behind a list's end counts: %d and %d words, %d", len(a), len(b), n)
		}
		kept := make([][]uint32, len(first.lists))
		for i, l := range first.lists {
			kept[i] = slices.Clone(l)
		}
		for i := range whole1 {
			whole1[i] = ^whole1[i]
		}
		for i := range whole2 {
			whole2[i] = ^whole2[i]
		}
		if !slices.EqualFunc(first.lists, kept, slices.Equal) {
			t.Fatalf("an answer shares memory with an argument: %d and %d words, %d", len(a), len(b), n)
		}
	})
}

// All words of an answer, and of its spare room, are overwritten: no other
// answer and no argument changes by it.
func TestR3AnswersAreNew(t *testing.T) {
	each(func(a, b []uint32, n int, s string, x float64) {
		before1, before2 := slices.Clone(a), slices.Clone(b)
		all := calls(a, b, n, s, x)
		want := calls(a, b, n, s, x)
		for i, l := range all.lists {
			if !slices.Equal(l, want.lists[i]) {
				t.Fatalf("answer %d shares memory with one ahead", i)
			}
			l = l[:cap(l)]
			for k := range l {
				l[k] = 0x5A5A5A5A
			}
		}
		if !slices.Equal(a, before1) || !slices.Equal(b, before2) || !equal(want, calls(a, b, n, s, x)) {
			t.Fatalf("an answer shares memory with what stays: %d and %d words, %d", len(a), len(b), n)
		}
	})
}

// The same list for both arguments is as two that are alike.
func TestR3OneListTwice(t *testing.T) {
	for _, a := range anyLists() {
		if !equal(calls(a, a, 5, "", 1), calls(a, slices.Clone(a), 5, "", 1)) {
			t.Errorf("one list twice: %d words", len(a))
		}
	}
}

// No spare room stands behind what is told.
func TestR3NoSpareRoom(t *testing.T) {
	each(func(a, b []uint32, n int, s string, x float64) {
		for i, l := range calls(a, b, n, s, x).lists {
			if cap(l) != len(l) {
				t.Errorf("answer %d: %d words, room for %d", i, len(l), cap(l))
			}
			if len(l) > 0 && l[len(l)-1] == 0 {
				t.Errorf("answer %d ends with a word of 0", i)
			}
		}
	})
}

func TestR3NilIsEmpty(t *testing.T) {
	for _, b := range anyLists() {
		for _, n := range anyNumbers() {
			for _, empty := range [][]uint32{{}, {0}, {0, 0}} {
				if !equal(calls(nil, b, n, "", 0), calls(empty, b, n, "", 0)) {
					t.Errorf("nil and %v are not the same", empty)
				}
			}
			if bignum.Cmp(b, nil) != bignum.Cmp(b, []uint32{}) {
				t.Error("nil and the empty list are not the same")
			}
		}
	}
}

func TestR4OnlyArguments(t *testing.T) {
	ask := func() []told {
		var l []told
		each(func(a, b []uint32, n int, s string, x float64) { l = append(l, calls(a, b, n, s, x)) })
		return l
	}
	first := ask()
	var all [4][]told
	var group sync.WaitGroup
	for i := range all {
		group.Go(func() { all[i] = ask() })
	}
	group.Wait()
	for _, l := range all {
		if !slices.EqualFunc(l, first, equal) {
			t.Error("the same calls told something else")
		}
	}
}

// Rounded once, to the nearest float, of two as near the even one.
func TestR5Rounded(t *testing.T) {
	rows := []struct {
		n    uint64
		want float64
	}{
		{1<<53 + 1, 1 << 53}, {1<<53 + 2, 1<<53 + 2}, {1<<53 + 3, 1<<53 + 4}, {1<<54 + 2, 1 << 54}, {1<<54 + 3, 1<<54 + 4},
		{1<<54 + 6, 1<<54 + 8}, {1<<63 + 1<<10, 1 << 63}, {1<<63 + 1<<10 + 1, 1<<63 + 1<<11}, {math.MaxUint64, 1 << 64},
	}
	for _, row := range rows {
		if got := bignum.Float(bignum.Of(row.n)); got != row.want {
			t.Errorf("Float(%d): %v, want %v", row.n, got, row.want)
		}
		for _, n := range []int{1, 31, 32, 64, 500, 900} {
			a, _ := bignum.Shl(bignum.Of(row.n), n)
			if got := bignum.Float(a); got != math.Ldexp(row.want, n) {
				t.Errorf("Float(%d times 2^%d): %v", row.n, n, got)
			}
		}
	}
	// As near to both but for the lowest bit.
	for _, n := range []int{10, 11, 12, 64, 500, 900} {
		half, _ := bignum.Shl(bignum.Of(1<<53+1), n)
		more, _ := bignum.Add(half, []uint32{1})
		if got := bignum.Float(more); got != math.Ldexp(1<<53+2, n) {
			t.Errorf("Float of more than half: %v", got)
		}
		less, _ := bignum.Sub(half, []uint32{1})
		if got := bignum.Float(less); got != math.Ldexp(1<<53, n) {
			t.Errorf("Float of less than half: %v", got)
		}
	}
}
