package heap_test

import (
	"math"
	"testing"

	"quill/api"
	"quill/ustr"
)

// closing is a descriptor of a length that is not writable from then on.
func closing(x float64) api.Prop {
	return api.Prop{Has: api.HasData, Value: number(x)}
}

func TestHe4Values(t *testing.T) {
	for _, row := range []struct {
		v api.Value
		n float64 // -1: none
	}{
		{number(0), 0}, {number(minus0()), 0}, {number(1), 1}, {number(7), 7}, {number(1 << 31), 1 << 31}, {number(1<<32 - 1), 1<<32 - 1},
		{number(1 << 32), -1}, {number(1<<32 + 5), -1}, {number(-1), -1}, {number(0.5), -1}, {number(-0.5), -1}, {number(none()), -1}, {number(math.Inf(1)), -1}, {number(math.Inf(-1)), -1}, {number(1e300), -1}, {number(5e-324), -1},
		{undefined(), -1}, {null(), 0}, {truth(false), 0}, {truth(true), 1}, {text(""), 0}, {narrow("3"), 3}, {narrow(" 0x10 "), 16}, {narrow("1e2"), 100}, {narrow("-0"), 0}, {narrow("a"), -1}, {narrow("-1"), -1}, {narrow("1.5"), -1}, {narrow("4294967295"), 1<<32 - 1}, {narrow("4294967296"), -1}, {text(ustr.Make([]uint16{0xFEFF, '7'})), 7},
		{object(0), -1}, {object(9), -1},
	} {
		for _, marks := range []string{"", "w"} {
			for _, length := range []float64{0, 5, 1 << 31} {
				h := made(t, 99, array(length, marks))
				want := plain(number(length), marks)
				switch {
				case row.n < 0:
					defines(t, h, 0, "length", only(row.v), false, api.ErrRange)
					defines(t, h, 0, "length", plain(row.v, "c"), false, api.ErrRange)
				case marks == "w" || row.n == length:
					want.Value.N = row.n
					defines(t, h, 0, "length", only(row.v), true, api.OK)
				default:
					defines(t, h, 0, "length", only(row.v), false, api.OK)
				}
				has(t, h, 0, keyed("length", want))
			}
		}
	}
}

// What stands in no p's Value is as of all objects.
func TestHe4NoValue(t *testing.T) {
	for _, marks := range []string{"", "w"} {
		for _, row := range []struct {
			p      api.Prop
			ok     bool
			closed bool
		}{
			{api.Prop{}, true, false}, {api.Prop{Has: api.HasEnumerable}, true, false}, {api.Prop{Has: api.HasConfigurable}, true, false}, {api.Prop{Has: api.HasWritable}, true, true}, {api.Prop{Has: api.HasWritable, Writable: true}, marks == "w", false},
			{api.Prop{Has: api.HasEnumerable, Enumerable: true}, false, false}, {api.Prop{Has: api.HasConfigurable, Configurable: true}, false, false}, {api.Prop{Has: api.HasGet}, false, false}, {api.Prop{Has: api.HasSet, Set: object(0)}, false, false},
		} {
			h := made(t, 99, array(2, marks, rows(2)...))
			defines(t, h, 0, "length", row.p, row.ok, api.OK)
			if row.closed {
				has(t, h, 0, array(2, "", rows(2)...).Props...)
			} else {
				has(t, h, 0, array(2, marks, rows(2)...).Props...)
			}
		}
	}
}

func TestHe4Greater(t *testing.T) {
	h := made(t, 99, array(2, "w", rows(2)...))
	defines(t, h, 0, "length", only(number(2)), true, api.OK)
	defines(t, h, 0, "length", only(number(5)), true, api.OK)
	defines(t, h, 0, "length", plain(number(6), "wc"), false, api.OK)
	defines(t, h, 0, "length", plain(number(6), "we"), false, api.OK)
	has(t, h, 0, array(5, "w", rows(2)...).Props...)
	defines(t, h, 0, "length", closing(7), true, api.OK)
	has(t, h, 0, array(7, "", rows(2)...).Props...)
	defines(t, h, 0, "length", only(number(8)), false, api.OK)
	defines(t, h, 0, "length", only(number(7)), true, api.OK)
	defines(t, h, 0, "length", closing(7), true, api.OK)
	defines(t, h, 0, "length", plain(number(7), "w"), false, api.OK)
	has(t, h, 0, array(7, "", rows(2)...).Props...)
}

func TestHe4Less(t *testing.T) {
	for to := range 5 {
		for _, closes := range []bool{false, true} {
			h := made(t, 99, array(5, "w", rows(5)...))
			p, marks := only(number(float64(to))), "w"
			if closes {
				p, marks = closing(float64(to)), ""
			}
			defines(t, h, 0, "length", p, true, api.OK)
			has(t, h, 0, array(float64(to), marks, rows(to)...).Props...)
			if h.Used() != 7 {
				t.Errorf("%d used", h.Used())
			}
		}
		h := made(t, 99, array(5, "", rows(5)...))
		defines(t, h, 0, "length", only(number(float64(to))), false, api.OK)
		defines(t, h, 0, "length", closing(float64(to)), false, api.OK)
		h.Define(0, wide("0"), api.Prop{Has: api.HasConfigurable})
		has(t, h, 0, array(5, "", append([]api.Keyed{keyed("0", plain(number(0), "we"))}, rows(5)[1:]...)...).Props...)
		h = made(t, 99, array(5, "w", rows(5)...))
		for _, marks := range []string{"c", "e", "ec", "wc", "we", "wec"} {
			defines(t, h, 0, "length", plain(number(float64(to)), marks), false, api.OK)
		}
		has(t, h, 0, array(5, "w", rows(5)...).Props...)
	}
}

// One that can't be removed: what is above it is gone, what is below it stays.
func TestHe4Stays(t *testing.T) {
	for stays := range 6 {
		for to := range 6 {
			for _, closes := range []bool{false, true} {
				l := rows(6)
				l[stays].P.Configurable = false
				h := made(t, 99, array(6, "w", l...))
				p, marks, ok, left := only(number(float64(to))), "w", stays < to, max(to, stays+1)
				if closes {
					p, marks = closing(float64(to)), ""
				}
				defines(t, h, 0, "length", p, ok, api.OK)
				has(t, h, 0, array(float64(left), marks, l[:left]...).Props...)
			}
		}
	}
}

// Indexes go by number, wherever in the order they stand; what is no index stays.
func TestHe4Order(t *testing.T) {
	p, stays := plain(null(), "c"), plain(null(), "we")
	for _, many := range []int{0, 20} {
		more := rows(many)
		for i := range more {
			more[i].Key = wide("x") + more[i].Key
		}
		l := append([]api.Keyed{keyed("9", p), keyed("a", stays), keyed("10", stays), keyed("4294967295", p), keyed("2", p), keyed("100", p), keyed("4294967294", p), keyed("01", p), keyed("3", p)}, more...)
		h := made(t, 99, array(1<<32-1, "w", l...))
		defines(t, h, 0, "length", only(number(3)), false, api.OK)
		left := append([]api.Keyed{l[0], l[1], l[2], l[3], l[4], l[7], l[8]}, more...)
		has(t, h, 0, array(11, "w", left...).Props...)
		defines(t, h, 0, "length", only(number(11)), true, api.OK)
		defines(t, h, 0, "length", only(number(10)), false, api.OK)
		has(t, h, 0, array(11, "w", left...).Props...)
	}
}

func TestHe4Accessors(t *testing.T) {
	h := made(t, 99, array(3, "w", keyed("0", pair(object(0), undefined(), "c")), keyed("1", pair(undefined(), undefined(), "e")), keyed("2", pair(undefined(), object(0), "ec"))))
	defines(t, h, 0, "length", closing(0), false, api.OK)
	has(t, h, 0, array(2, "", keyed("0", pair(object(0), undefined(), "c")), keyed("1", pair(undefined(), undefined(), "e"))).Props...)
}

func TestHe4Fixed(t *testing.T) {
	o := array(3, "w", rows(3)...)
	o.Fixed = true
	h := made(t, 5, o) // and without cells
	h.Take(1)
	defines(t, h, 0, "length", only(number(9)), true, api.OK)
	defines(t, h, 0, "length", only(number(1)), true, api.OK)
	has(t, h, 0, array(1, "w", rows(1)...).Props...)
	defines(t, h, 0, "1", only(null()), false, api.OK)
	has(t, h, 0, array(1, "w", rows(1)...).Props...)
}

// A length of -0 stands for 0.
func TestHe4Nought(t *testing.T) {
	h := made(t, 99, array(minus0(), "w"), array(minus0(), ""))
	has(t, h, 0, keyed("length", plain(number(minus0()), "w")))
	defines(t, h, 0, "length", only(number(minus0())), true, api.OK)
	has(t, h, 0, keyed("length", plain(number(0), "w")))
	defines(t, h, 0, "0", only(null()), true, api.OK)
	has(t, h, 0, keyed("length", plain(number(1), "w")), keyed("0", plain(null(), "")))
}

func TestHe5Index(t *testing.T) {
	h := made(t, 99, array(0, "w"))
	p := plain(null(), "wec")
	want := []api.Keyed{keyed("length", plain(number(0), "w"))}
	for _, row := range []struct {
		key string
		n   float64
	}{{"0", 1}, {"2", 3}, {"1", 3}, {"a", 3}, {"10", 11}, {"9", 11}, {"01", 11}, {"-1", 11}, {"11.5", 11}, {"1e9", 11}, {"11", 12}, {"4294967295", 12}, {"4294967296", 12}, {"99999999999", 12}, {"", 12}, {"2147483648", 1<<31 + 1}, {"4294967293", 1<<32 - 2}, {"4294967294", 1<<32 - 1}, {"5", 1<<32 - 1}} {
		defines(t, h, 0, row.key, p, true, api.OK)
		want = append(want, keyed(row.key, p))
		want[0].P.Value.N = row.n
		has(t, h, 0, want...)
	}
	if h.Used() != 1+len(want) {
		t.Errorf("%d used", h.Used())
	}
}

// Of a length that is not writable, what is below it may be defined.
func TestHe5NotWritable(t *testing.T) {
	h := made(t, 5, array(2, "", rows(1)...))
	defines(t, h, 0, "2", only(null()), false, api.OK)
	defines(t, h, 0, "3", only(null()), false, api.OK)
	defines(t, h, 0, "4294967294", api.Prop{}, false, api.OK)
	defines(t, h, 0, "2", api.Prop{Has: -1}, false, api.ErrProp)
	defines(t, h, 0, "0", only(null()), true, api.OK)
	defines(t, h, 0, "1", only(null()), true, api.OK)
	defines(t, h, 0, "1", only(number(1)), false, api.OK)
	defines(t, h, 0, "4294967295", only(null()), true, api.OK)
	has(t, h, 0, keyed("length", plain(number(2), "")), keyed("0", plain(null(), "wec")), keyed("1", plain(null(), "")), keyed("4294967295", plain(null(), "")))
	// What is refused by an error comes ahead.
	defines(t, h, 0, "2", only(null()), false, api.ErrFull)
	h.Prevent(0)
	defines(t, h, 0, "2", only(null()), false, api.OK)
}

// What tells false, or an error, leaves the length.
func TestHe5Refused(t *testing.T) {
	o := array(2, "w", keyed("0", plain(null(), "")))
	h := made(t, 3, o)
	defines(t, h, 0, "5", only(null()), false, api.ErrFull)
	defines(t, h, 0, "1", only(null()), false, api.ErrFull)
	defines(t, h, 0, "0", only(number(1)), false, api.OK)
	h.Prevent(0)
	defines(t, h, 0, "5", only(null()), false, api.OK)
	defines(t, h, 0, "1", only(null()), false, api.OK)
	has(t, h, 0, o.Props...)
}

// The examples of the chapter.
func TestExamples(t *testing.T) {
	h := made(t, 99, array(3, "w", rows(3)...), array(3, "w", rows(3)...), box("ab"))
	defines(t, h, 0, "length", only(number(1)), true, api.OK)
	has(t, h, 0, array(1, "w", rows(1)...).Props...)
	defines(t, h, 1, "1", api.Prop{Has: api.HasConfigurable}, true, api.OK)
	defines(t, h, 1, "length", only(number(1)), false, api.OK)
	owns(t, h, 1, "length", plain(number(2), "w"))
	names(t, h, 2, "0", "1", "length")
	defines(t, h, 2, "0", only(narrow("a")), true, api.OK)
	defines(t, h, 2, "0", only(narrow("b")), false, api.OK)
	defines(t, h, 0, "length", only(number(-1)), false, api.ErrRange)
}
