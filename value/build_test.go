package value_test

import (
	"math"
	"slices"
	"strings"
	"testing"

	"quill/api"
	"quill/ustr"
	"quill/value"
)

// none is the NaN that is told.
func none() float64 { return math.Float64frombits(0x7FF8000000000000) }

// minus0 is the nought with a sign.
func minus0() float64 { return math.Copysign(0, -1) }

// nans are NaNs of many bits, the one that is told first.
func nans() []float64 {
	l := []float64{none()}
	for _, bits := range []uint64{0x7FF8000000000001, 0x7FF0000000000001, 0xFFF8000000000000, 0xFFF0000000000001, 0x7FFFFFFFFFFFFFFF, 0xFFFFFFFFFFFFFFFF} {
		l = append(l, math.Float64frombits(bits))
	}
	return l
}

// same tells whether two floats have the same bits.
func same(x, y float64) bool { return math.Float64bits(x) == math.Float64bits(y) }

// alike tells whether two values are the same, part by part, to the bit.
func alike(a, b api.Value) bool {
	return a.Kind == b.Kind && a.B == b.B && same(a.N, b.N) && a.S == b.S && a.O == b.O
}

// wide is a text of bytes.
func wide(b string) string { return ustr.Wide(b) }

// Values are built here part by part, so that they hang on nothing that is tested.

func undefined() api.Value        { return api.Value{} }
func null() api.Value             { return api.Value{Kind: api.KindNull} }
func truth(b bool) api.Value      { return api.Value{Kind: api.KindBool, B: b} }
func number(x float64) api.Value  { return api.Value{Kind: api.KindNumber, N: x} }
func text(s string) api.Value     { return api.Value{Kind: api.KindString, S: s} }
func object(o int) api.Value      { return api.Value{Kind: api.KindObject, O: o} }
func narrow(b string) api.Value   { return text(wide(b)) }
func empty() api.Value            { return api.Value{Kind: api.KindEmpty} }
func units(l ...uint16) api.Value { return text(ustr.Make(l)) }
func isObject(v api.Value) bool   { return v.Kind == api.KindObject }
func isText(v api.Value) bool     { return v.Kind == api.KindString }
func isNumber(v api.Value) bool   { return v.Kind == api.KindNumber }
func isNaN(v api.Value) bool      { return isNumber(v) && math.IsNaN(v.N) }

// card is a value, and what is told of it, written out by hand.
type card struct {
	v      api.Value
	typeOf string
	truth  bool
	number float64
	text   string // units
}

// cards are values of all kinds; what is told of an object counts not.
func cards() []card {
	l := []card{
		{undefined(), "undefined", false, none(), wide("undefined")},
		{null(), "object", false, 0, wide("null")},
		{truth(false), "boolean", false, 0, wide("false")},
		{truth(true), "boolean", true, 1, wide("true")},
	}
	for _, o := range []int{0, 1, 2, 1 << 24, math.MaxInt} {
		l = append(l, card{v: object(o), typeOf: "object", truth: true})
	}
	return slices.Concat(l, numberCards(), textCards())
}

func numberCards() []card {
	var l []card
	for _, row := range []struct {
		x    float64
		text string
	}{
		{0, "0"}, {minus0(), "0"}, {1, "1"}, {-1, "-1"}, {2, "2"}, {9, "9"}, {10, "10"}, {31, "31"}, {0.1, "0.1"}, {-0.1, "-0.1"}, {1.5, "1.5"}, {123e20, "1.23e+22"}, {1e20, "100000000000000000000"}, {1e21, "1e+21"}, {-1e21, "-1e+21"}, {0.000001, "0.000001"}, {0.0000001, "1e-7"},
		{5e-324, "5e-324"}, {-5e-324, "-5e-324"}, {math.MaxFloat64, "1.7976931348623157e+308"}, {-math.MaxFloat64, "-1.7976931348623157e+308"}, {1 << 53, "9007199254740992"}, {0.7999999999999999, "0.7999999999999999"}, {math.Inf(1), "Infinity"}, {math.Inf(-1), "-Infinity"}, {none(), "NaN"},
	} {
		l = append(l, card{number(row.x), "number", row.x != 0 && row.x == row.x, row.x, wide(row.text)})
	}
	return l
}

func textCards() []card {
	var l []card
	for _, row := range []struct {
		s string
		x float64
	}{
		{"", 0}, {" ", 0}, {"\t\n\r ", 0}, {"0", 0}, {"-0", minus0()}, {"+0", 0}, {"00", 0}, {"1", 1}, {"01", 1}, {"+1", 1}, {" 1 ", 1}, {"-1", -1}, {"2", 2}, {"9", 9}, {"10", 10}, {"1e1", 10}, {"0x1F", 31}, {"0X1f", 31}, {"31", 31}, {".1", 0.1}, {"0.10", 0.1}, {"1.", 1}, {"1.5", 1.5},
		{"9007199254740993", 1 << 53}, {"1e400", math.Inf(1)}, {"-1e400", math.Inf(-1)}, {"1e-400", 0}, {"Infinity", math.Inf(1)}, {"-Infinity", math.Inf(-1)}, {"+Infinity", math.Inf(1)},
		{"NaN", none()}, {"-0x1F", none()}, {"1e", none()}, {".", none()}, {"+", none()}, {"- 1", none()}, {"1 2", none()}, {"infinity", none()}, {"INFINITY", none()}, {"0x", none()}, {"1,5", none()}, {"undefined", none()}, {"null", none()}, {"true", none()}, {"false", none()}, {"a", none()}, {"A", none()}, {"ab", none()}, {"b", none()}, {"\x00", none()}, {"1\x00", none()},
	} {
		l = append(l, card{narrow(row.s), "string", row.s != "", row.x, wide(row.s)})
	}
	for _, row := range []struct {
		v api.Value
		x float64
	}{
		{units(0xFEFF, '7', 0x2029), 7}, {units(0x180E, 0x3000), 0}, {units(0x0100), none()}, {units(0xD83D, 0xDE00), none()}, {units(0xDE00), none()}, {units(0xFFFF), none()}, {units(0x0130), none()}, {units(0x3100), none()}, {units('1', 0x0131), none()}, {units(0xFF11), none()},
	} {
		l = append(l, card{row.v, "string", true, row.x, row.v.S})
	}
	return l
}

// values are those of the cards.
func values() []api.Value {
	var l []api.Value
	for _, c := range cards() {
		l = append(l, c.v)
	}
	return l
}

// draws tells numbers one after the other that look like chance, the same each time.
func draws(seed uint64) func() uint64 {
	state := seed
	return func() uint64 {
		state += 0x9E3779B97F4A7C15
		z := (state ^ state>>30) * 0xBF58476D1CE4E5B9
		z = (z ^ z>>27) * 0x94D049BB133111EB
		return z ^ z>>31
	}
}

// drawnFloat is a float of any size, or one of few bits, or an edge.
func drawnFloat(draw func() uint64) float64 {
	switch draw() % 6 {
	case 0:
		return float64(int64(draw()%41) - 20)
	case 1:
		return float64(int64(draw()%2001)-1000) / 8
	case 2:
		return float64(int64(draw())) / float64(uint64(1)<<(draw()%60))
	case 3:
		return []float64{0, minus0(), none(), math.Inf(1), math.Inf(-1), 5e-324, math.MaxFloat64}[draw()%7]
	}
	if x := math.Float64frombits(draw()); !math.IsNaN(x) {
		return x
	}
	return none()
}

// drawnText is a text of pieces of which numbers may come.
func drawnText(draw func() uint64) string {
	pieces := []string{"0", "1", "9", "12", ".", "e", "E", "-", "+", " ", "\n", "0x", "a", "f", "Infinity", "\xA0"}
	var b strings.Builder
	for range draw() % 5 {
		b.WriteString(wide(pieces[draw()%uint64(len(pieces))]))
		if draw()%12 == 0 {
			b.WriteString(ustr.Make([]uint16{uint16(draw())}))
		}
	}
	return b.String()
}

// drawn is a value that may be, objects among them.
func drawn(draw func() uint64) api.Value {
	switch draw() % 12 {
	case 0:
		return undefined()
	case 1:
		return null()
	case 2:
		return truth(draw()%2 == 0)
	case 3:
		return object(int(draw() % 3))
	case 4, 5, 6, 7:
		return number(drawnFloat(draw))
	}
	return text(drawnText(draw))
}

// many are the values of the cards, and drawn ones.
func many(n int) []api.Value {
	draw := draws(11)
	l := values()
	for range n {
		l = append(l, drawn(draw))
	}
	return l
}

// wrong are values that may not be, of all kinds that are and of others.
func wrong() []api.Value {
	var l []api.Value
	for _, v := range combined() {
		if !mayBe(v) {
			l = append(l, v)
		}
	}
	return l
}

// combined are values of all kinds and others, with parts of all sorts.
func combined() []api.Value {
	var l []api.Value
	for _, kind := range []int{math.MinInt, -1, api.KindUndefined, api.KindNull, api.KindBool, api.KindNumber, api.KindString, api.KindObject, api.KindEmpty, 7, math.MaxInt} {
		for _, b := range []bool{false, true} {
			for _, x := range append(nans(), 0, minus0(), 1, -5e-324, math.Inf(1), math.Inf(-1)) {
				for _, s := range []string{"", "\x00a", "\x00", "\x00a\x00", "\x00a\x00b"} {
					for _, o := range []int{0, 1, -1, math.MinInt, math.MaxInt} {
						l = append(l, api.Value{Kind: kind, B: b, N: x, S: s, O: o})
					}
				}
			}
		}
	}
	return l
}

// mayBe tells by the chapter's words whether a value may be.
func mayBe(v api.Value) bool {
	if v.Kind < 0 || v.Kind > 5 {
		return false
	}
	bool0, number0, text0, object0 := !v.B, same(v.N, 0), v.S == "", v.O == 0
	switch v.Kind {
	case api.KindBool:
		return number0 && text0 && object0
	case api.KindNumber:
		return bool0 && text0 && object0 && (v.N == v.N || same(v.N, none()))
	case api.KindString:
		return bool0 && number0 && object0 && len(v.S)%2 == 0
	case api.KindObject:
		return bool0 && number0 && text0 && v.O >= 0
	}
	return bool0 && number0 && text0 && object0
}

// shown is a value for a fault's text.
func shown(v api.Value) string {
	if isText(v) {
		return "text " + ustr.Encode(v.S)
	}
	s, errno := value.ToString(v)
	if errno != api.OK {
		return "an object, or none"
	}
	return ustr.Encode(s)
}

// refused holds an error, and that there is nothing beside it.
func refused(t *testing.T, call string, errno api.Errno, zero bool, l ...api.Value) {
	t.Helper()
	if errno != api.ErrArg || !zero {
		t.Errorf("%s of %+v: error %d, nothing beside it: %v", call, l, errno, zero)
	}
}
