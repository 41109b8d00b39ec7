package mathfn_test

import (
	"math"
	"slices"
	"sync"
	"testing"

	"quill/mathfn"
)

// told is the bits of what all calls tell of many floats, each with some others.
func told() []uint64 {
	l := anyFloats(20)
	var all []uint64
	for i, x := range l {
		for _, f := range functions() {
			all = append(all, math.Float64bits(f.call(x)))
		}
		for j := i % 3; j < len(l); j += 3 {
			for _, f := range functions2() {
				all = append(all, math.Float64bits(f.call(x, l[j])))
			}
		}
	}
	return all
}

// No call panics, none takes long, and each NaN that is told is the one.
func TestR1NoPanic(t *testing.T) {
	for _, b := range told() {
		if math.IsNaN(bits(b)) && !same(bits(b), none) {
			t.Errorf("a NaN of other bits: %x", b)
		}
	}
	for range 2000 {
		mathfn.Sin(math.MaxFloat64)
		mathfn.Tan(-math.MaxFloat64)
		mathfn.Pow(-math.MaxFloat64, math.MaxFloat64)
		mathfn.Pow(5e-324, -math.MaxFloat64)
		mathfn.Log(5e-324)
	}
}

func TestR4OnlyArguments(t *testing.T) {
	first := told()
	var all [4][]uint64
	var group sync.WaitGroup
	for i := range all {
		group.Go(func() { all[i] = told() })
	}
	group.Wait()
	for _, l := range all {
		if !slices.Equal(l, first) {
			t.Error("the same calls told something else")
		}
	}
}

// Were a product joined with its sum and the two rounded once, the ways would tell
// something else; so the tests of the ways hold this rule, too.
func TestR5JoinedTellsOtherwise(t *testing.T) {
	joined := 0
	for _, x := range between(1000, 0.4) {
		z := times(x, x)
		p := 0.0
		for i := 39.0; i >= 1; i -= 2 {
			p = math.FMA(-z, p, 1/i)
		}
		if !same(times(x, p), mathfn.Atan(x)) {
			joined++
		}
	}
	if joined == 0 {
		t.Error("no number was asked at which it is to be seen")
	}
}

// The examples of the chapter.
func TestExamples(t *testing.T) {
	exp().one(t, 0, 1)
	log().one(t, 1, 0)
	sin().one(t, minus0, minus0)
	atan2().one(t, minus0, -1, -pi)
	pow().rows(t, []row2{{2, 10, 1024}, {-8, 1.0 / 3, none}, {none, 0, 1}, {1, inf, none}})
}
