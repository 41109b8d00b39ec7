package value_test

import (
	"math"
	"testing"

	"quill/api"
	"quill/value"
)

func TestVa3Rows(t *testing.T) {
	nan := number(none())
	for _, row := range []struct {
		x, y         api.Value
		strict, same bool
	}{
		{undefined(), undefined(), true, true}, {null(), null(), true, true}, {undefined(), null(), false, false}, {truth(true), truth(true), true, true}, {truth(true), truth(false), false, false},
		{number(1), number(1), true, true}, {number(1), number(2), false, false}, {number(0), number(minus0()), true, false}, {number(minus0()), number(minus0()), true, true}, {nan, nan, false, true}, {nan, number(0), false, false},
		{narrow("a"), narrow("a"), true, true}, {narrow("a"), narrow("A"), false, false}, {narrow("a"), narrow("ab"), false, false}, {text(""), text(""), true, true}, {narrow("a\x00"), narrow("a"), false, false},
		{object(0), object(0), true, true}, {object(0), object(1), false, false}, {object(7), object(7), true, true},
		// Of other kinds nothing is alike, whatever their parts are.
		{undefined(), truth(false), false, false}, {null(), number(0), false, false}, {null(), object(0), false, false}, {truth(false), number(0), false, false}, {truth(true), number(1), false, false}, {number(0), text(""), false, false}, {number(1), narrow("1"), false, false}, {object(1), number(1), false, false}, {undefined(), narrow("undefined"), false, false},
	} {
		for _, b := range []bool{value.Strict(row.x, row.y), value.Strict(row.y, row.x)} {
			if b != row.strict {
				t.Errorf("%s === %s: %v", shown(row.x), shown(row.y), b)
			}
		}
		for _, b := range []bool{value.Same(row.x, row.y), value.Same(row.y, row.x)} {
			if b != row.same {
				t.Errorf("Same of %s and %s: %v", shown(row.x), shown(row.y), b)
			}
		}
	}
}

func TestVa4LooseRows(t *testing.T) {
	for _, row := range []struct {
		x, y api.Value
		want bool
	}{
		{null(), number(0), false}, {narrow("1"), truth(true), true}, {undefined(), null(), true}, {undefined(), undefined(), true}, {undefined(), number(none()), false}, {undefined(), number(0), false}, {null(), truth(false), false}, {null(), text(""), false}, {undefined(), truth(false), false}, {undefined(), narrow("undefined"), false}, {null(), narrow("null"), false},
		{number(0), text(""), true}, {number(0), narrow(" \n"), true}, {number(31), narrow("0x1F"), true}, {number(minus0()), narrow("0"), true}, {number(none()), narrow("NaN"), false}, {number(1), narrow("1a"), false}, {number(math.Inf(1)), narrow("1e400"), true},
		{truth(true), number(1), true}, {truth(true), number(2), false}, {truth(false), text(""), true}, {truth(false), narrow("0"), true}, {truth(true), narrow("true"), false}, {truth(false), narrow("false"), false}, {truth(false), number(minus0()), true}, {truth(true), narrow("01"), true},
		{narrow("1"), narrow("01"), false}, {narrow("1"), narrow("1"), true}, {number(none()), number(none()), false}, {truth(true), truth(true), true}, {truth(true), truth(false), false},
		{object(1), object(1), true}, {object(1), object(2), false}, {object(0), undefined(), false}, {object(0), null(), false},
	} {
		for _, l := range [][2]api.Value{{row.x, row.y}, {row.y, row.x}} {
			if b, errno := value.Loose(l[0], l[1]); b != row.want || errno != api.OK {
				t.Errorf("%s == %s: %v, error %d", shown(l[0]), shown(l[1]), b, errno)
			}
		}
	}
	for _, v := range []api.Value{truth(true), truth(false), number(0), number(none()), text(""), narrow("a")} {
		b, errno := value.Loose(object(0), v)
		refused(t, "Loose", errno, !b, v)
		b, errno = value.Loose(v, object(0))
		refused(t, "Loose", errno, !b, v)
	}
}

func TestVa4LessRows(t *testing.T) {
	for _, row := range []struct {
		x, y api.Value
		want int
	}{
		{narrow("10"), narrow("9"), 1}, {narrow("9"), narrow("10"), 0}, {narrow("10"), number(9), 0}, {number(9), narrow("10"), 1}, {undefined(), number(1), -1}, {number(1), undefined(), -1}, {undefined(), undefined(), -1},
		{narrow("a"), narrow("a"), 0}, {narrow("a"), narrow("ab"), 1}, {narrow("ab"), narrow("a"), 0}, {text(""), narrow("\x00"), 1}, {narrow("Z"), narrow("a"), 1}, {text(""), text(""), 0}, {narrow("a"), number(1), -1}, {number(1), narrow("a"), -1}, {narrow("a"), truth(true), -1},
		{null(), number(1), 1}, {null(), number(0), 0}, {null(), null(), 0}, {null(), text(""), 0}, {null(), undefined(), -1}, {truth(false), truth(true), 1}, {truth(true), truth(false), 0}, {truth(true), number(2), 1}, {truth(false), narrow("1"), 1}, {number(minus0()), number(0), 0}, {number(0), number(minus0()), 0}, {number(none()), number(none()), -1}, {number(math.Inf(-1)), number(math.Inf(1)), 1}, {text(""), number(1), 1},
	} {
		if n, errno := value.Less(row.x, row.y); n != row.want || errno != api.OK {
			t.Errorf("%s < %s: %d, error %d", shown(row.x), shown(row.y), n, errno)
		}
	}
	for _, v := range values() {
		n, errno := value.Less(object(1), v)
		refused(t, "Less", errno, n == 0, v)
		n, errno = value.Less(v, object(1))
		refused(t, "Less", errno, n == 0, v)
	}
}

func TestVa4AddRows(t *testing.T) {
	inf := math.Inf(1)
	for _, row := range []struct{ x, y, want api.Value }{
		{narrow("a"), null(), narrow("anull")}, {truth(true), number(1), number(2)}, {narrow("1"), number(2), narrow("12")}, {number(1), narrow("2"), narrow("12")}, {narrow("a"), narrow("b"), narrow("ab")}, {text(""), text(""), text("")}, {undefined(), text(""), narrow("undefined")}, {text(""), truth(true), narrow("true")}, {truth(false), narrow(" "), narrow("false ")},
		{text(""), number(minus0()), narrow("0")}, {number(none()), text(""), narrow("NaN")}, {text(""), number(1e21), narrow("1e+21")}, {units(0xD83D), units(0xDE00), units(0xD83D, 0xDE00)},
		{null(), null(), number(0)}, {null(), truth(true), number(1)}, {truth(true), truth(true), number(2)}, {undefined(), number(1), number(none())}, {undefined(), null(), number(none())}, {undefined(), undefined(), number(none())},
		{number(0.1), number(0.2), number(0.30000000000000004)}, {number(minus0()), number(minus0()), number(minus0())}, {number(minus0()), number(0), number(0)}, {number(minus0()), null(), number(0)}, {number(1), number(-1), number(0)}, {number(inf), number(-inf), number(none())}, {number(-inf), number(inf), number(none())}, {number(inf), number(inf), number(inf)}, {number(math.MaxFloat64), number(math.MaxFloat64), number(inf)}, {number(none()), number(inf), number(none())},
	} {
		if v, errno := value.Add(row.x, row.y); !alike(v, row.want) || errno != api.OK {
			t.Errorf("%s + %s: %+v, error %d", shown(row.x), shown(row.y), v, errno)
		}
	}
	for _, v := range values() {
		w, errno := value.Add(object(1), v)
		refused(t, "Add", errno, alike(w, api.Value{}), v)
		w, errno = value.Add(v, object(1))
		refused(t, "Add", errno, alike(w, api.Value{}), v)
	}
}
