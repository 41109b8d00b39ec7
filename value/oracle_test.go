package value_test

import (
	"math"
	"testing"

	"quill/api"
	"quill/value"
)

// The clauses' steps a second time, of cards: they ask none of the calls.

// strictly is 11.9.6.
func strictly(x, y card) bool {
	if x.v.Kind != y.v.Kind {
		return false
	}
	switch x.v.Kind {
	case api.KindUndefined, api.KindNull:
		return true
	case api.KindNumber:
		switch {
		case math.IsNaN(x.v.N), math.IsNaN(y.v.N):
			return false
		case math.Abs(x.v.N) == 0 && math.Abs(y.v.N) == 0:
			return true
		}
		return same(x.v.N, y.v.N)
	case api.KindString:
		return x.v.S == y.v.S
	case api.KindBool:
		return x.v.B == y.v.B
	}
	return x.v.O == y.v.O
}

// sameValue is 9.12.
func sameValue(x, y card) bool {
	if x.v.Kind == api.KindNumber && y.v.Kind == api.KindNumber {
		return same(x.v.N, y.v.N) // there is one NaN
	}
	return strictly(x, y)
}

// asNumber is the card of a card's number.
func asNumber(c card) card { return card{v: number(c.number), number: c.number} }

// loosely is 11.9.3; false beside a false where an object would be asked.
func loosely(x, y card) (equal, told bool) {
	a, b := x.v.Kind, y.v.Kind
	switch {
	case a == b:
		return strictly(x, y), true
	case a == api.KindNull && b == api.KindUndefined, a == api.KindUndefined && b == api.KindNull:
		return true, true
	case a == api.KindNumber && b == api.KindString:
		return strictly(x, asNumber(y)), true
	case a == api.KindString && b == api.KindNumber:
		return strictly(asNumber(x), y), true
	case a == api.KindBool:
		return loosely(asNumber(x), y)
	case b == api.KindBool:
		return loosely(x, asNumber(y))
	case (a == api.KindString || a == api.KindNumber) && b == api.KindObject, a == api.KindObject && (b == api.KindString || b == api.KindNumber):
		return false, false
	}
	return false, true
}

// below is 11.8.5, of what are no objects: 1, 0, or -1.
func below(x, y card) int {
	if !isText(x.v) || !isText(y.v) {
		switch {
		case math.IsNaN(x.number), math.IsNaN(y.number):
			return -1
		case x.number < y.number:
			return 1
		}
		return 0
	}
	for i := range min(len(x.text), len(y.text)) {
		if x.text[i] != y.text[i] { // the higher byte of a unit comes first
			return count(x.text[i] < y.text[i])
		}
	}
	return count(len(x.text) < len(y.text))
}

func count(b bool) int {
	if b {
		return 1
	}
	return 0
}

// sum is 11.6.1, of what are no objects.
func sum(x, y card) api.Value {
	if isText(x.v) || isText(y.v) {
		return text(x.text + y.text)
	}
	if z := x.number + y.number; !math.IsNaN(z) {
		return number(z)
	}
	return number(none())
}

// eachTwo calls f with each two cards.
func eachTwo(f func(x, y card)) {
	l := cards()
	for _, x := range l {
		for _, y := range l {
			f(x, y)
		}
	}
}

func TestVa3EachTwo(t *testing.T) {
	eachTwo(func(x, y card) {
		if b := value.Strict(x.v, y.v); b != strictly(x, y) {
			t.Errorf("%s === %s: %v", shown(x.v), shown(y.v), b)
		}
		if b := value.Same(x.v, y.v); b != sameValue(x, y) {
			t.Errorf("Same of %s, %s: %v", shown(x.v), shown(y.v), b)
		}
	})
}

func TestVa4LooseEachTwo(t *testing.T) {
	met := map[bool]int{}
	eachTwo(func(x, y card) {
		want, told := loosely(x, y)
		met[want]++
		b, errno := value.Loose(x.v, y.v)
		if !told {
			refused(t, "Loose", errno, !b, x.v, y.v)
		} else if b != want || errno != api.OK {
			t.Errorf("%s == %s: %v, error %d", shown(x.v), shown(y.v), b, errno)
		}
	})
	if met[true] < 150 {
		t.Errorf("%d were equal", met[true])
	}
}

func TestVa4LessEachTwo(t *testing.T) {
	met := map[int]int{}
	eachTwo(func(x, y card) {
		n, errno := value.Less(x.v, y.v)
		if isObject(x.v) || isObject(y.v) {
			refused(t, "Less", errno, n == 0, x.v, y.v)
		} else if n != below(x, y) || errno != api.OK {
			t.Errorf("%s < %s: %d, error %d", shown(x.v), shown(y.v), n, errno)
		}
		met[n]++
	})
	if met[-1] < 1000 || met[0] < 1000 || met[1] < 1000 {
		t.Errorf("met were %v", met)
	}
}

func TestVa4AddEachTwo(t *testing.T) {
	eachTwo(func(x, y card) {
		v, errno := value.Add(x.v, y.v)
		if isObject(x.v) || isObject(y.v) {
			refused(t, "Add", errno, alike(v, api.Value{}), x.v, y.v)
		} else if !alike(v, sum(x, y)) || errno != api.OK {
			t.Errorf("%s + %s: %s, error %d", shown(x.v), shown(y.v), shown(v), errno)
		}
	})
}
