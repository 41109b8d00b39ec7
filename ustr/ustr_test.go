package ustr_test

import (
	"math"
	"slices"
	"strings"
	"testing"
	"unicode/utf8"

	"quill/api"
	"quill/ustr"
)

// text is the text of UTF-8 that a test has written out.
func text(t *testing.T, b string) string {
	t.Helper()
	s, place, errno := ustr.Decode(b)
	if errno != api.OK || place != 0 {
		t.Fatalf("Decode(%q): place %d, error %d", b, place, errno)
	}
	return s
}

// texts is all texts of these units, none longer than so many.
func texts(units []uint16, most int) []string {
	all, last := []string{""}, []string{""}
	for range most {
		var next []string
		for _, s := range last {
			for _, u := range units {
				next = append(next, s+ustr.Make([]uint16{u}))
			}
		}
		all, last = append(all, next...), next
	}
	return all
}

// point is the code point at the beginning of b by Unicode's table of
// well-formed bytes, and how many bytes it has; 0: there is none.
func point(b string) (rune, int) {
	rows := []struct{ first, last, low, high, bytes, head int }{
		{0x00, 0x7F, 0, 0, 1, 0x00},
		{0xC2, 0xDF, 0x80, 0xBF, 2, 0xC0},
		{0xE0, 0xE0, 0xA0, 0xBF, 3, 0xE0},
		{0xE1, 0xEC, 0x80, 0xBF, 3, 0xE0},
		{0xED, 0xED, 0x80, 0x9F, 3, 0xE0},
		{0xEE, 0xEF, 0x80, 0xBF, 3, 0xE0},
		{0xF0, 0xF0, 0x90, 0xBF, 4, 0xF0},
		{0xF1, 0xF3, 0x80, 0xBF, 4, 0xF0},
		{0xF4, 0xF4, 0x80, 0x8F, 4, 0xF0},
	}
	for _, row := range rows {
		if int(b[0]) < row.first || int(b[0]) > row.last {
			continue
		}
		r := int(b[0]) - row.head
		for i := 1; i < row.bytes; i++ {
			low, high := 0x80, 0xBF
			if i == 1 {
				low, high = row.low, row.high
			}
			if i >= len(b) || int(b[i]) < low || int(b[i]) > high {
				return 0, 0
			}
			r = r<<6 | int(b[i])&0x3F
		}
		return rune(r), row.bytes
	}
	return 0, 0
}

// decoded is what Decode promises, worked out by point.
func decoded(b string) (string, int, api.Errno) {
	var l []uint16
	for i := 0; i < len(b); {
		r, n := point(b[i:])
		if n == 0 {
			return "", i, api.ErrEncoding
		}
		if r > 0xFFFF {
			l = append(l, uint16(0xD800+(r-0x10000)/0x400), uint16(0xDC00+(r-0x10000)%0x400))
		} else {
			l = append(l, uint16(r))
		}
		i += n
	}
	return ustr.Make(l), 0, api.OK
}

func checkDecode(t *testing.T, b string) {
	t.Helper()
	s, place, errno := ustr.Decode(b)
	wants, wantPlace, wantErrno := decoded(b)
	if s != wants || place != wantPlace || errno != wantErrno {
		t.Errorf("Decode(% x): %x, %d, %d; want %x, %d, %d", b, s, place, errno, wants, wantPlace, wantErrno)
	}
}

func TestUs1DecodeExamples(t *testing.T) {
	rows := []struct {
		bytes string
		units []uint16
		place int
		errno api.Errno
	}{
		{"", nil, 0, api.OK},
		{"a\x00\x7f", []uint16{'a', 0, 0x7F}, 0, api.OK},
		{"\xc3\xa9", []uint16{0xE9}, 0, api.OK},
		{"\xef\xbf\xbd", []uint16{0xFFFD}, 0, api.OK},
		{"\xef\xbf\xbf", []uint16{0xFFFF}, 0, api.OK},
		{"\xed\x9f\xbf\xee\x80\x80", []uint16{0xD7FF, 0xE000}, 0, api.OK},
		{"\xf0\x9f\x98\x80", []uint16{0xD83D, 0xDE00}, 0, api.OK},
		{"\xf0\x90\x80\x80", []uint16{0xD800, 0xDC00}, 0, api.OK},
		{"\xf4\x8f\xbf\xbf", []uint16{0xDBFF, 0xDFFF}, 0, api.OK},
		{"a\xc0\x80", nil, 1, api.ErrEncoding},
		{"\xc3\xa9\x80", nil, 2, api.ErrEncoding},
		{"ab\xe2\x82", nil, 2, api.ErrEncoding},
		{"ab\xe2\x82c", nil, 2, api.ErrEncoding},
		{"\xef\xbf\xbd\xff\xfe", nil, 3, api.ErrEncoding},
		{"\xe0\x9f\xbf", nil, 0, api.ErrEncoding},
		{"\xed\xa0\x80", nil, 0, api.ErrEncoding},
		{"\xed\xbf\xbf", nil, 0, api.ErrEncoding},
		{"\xf0\x8f\xbf\xbf", nil, 0, api.ErrEncoding},
		{"a\xf4\x90\x80\x80", nil, 1, api.ErrEncoding},
		{"\xf5\x80\x80\x80", nil, 0, api.ErrEncoding},
		{"\xf0\x9f\x98", nil, 0, api.ErrEncoding},
	}
	for _, row := range rows {
		s, place, errno := ustr.Decode(row.bytes)
		if !slices.Equal(ustr.Units(s), row.units) || place != row.place || errno != row.errno {
			t.Errorf("Decode(% x): %x, %d, %d", row.bytes, s, place, errno)
		}
	}
}

// The bytes at which Unicode's table changes, in all orders.
func TestUs1DecodeAllForms(t *testing.T) {
	edges := []byte{0x00, 0x41, 0x7F, 0x80, 0x8F, 0x90, 0x9F, 0xA0, 0xBF, 0xC0, 0xC1, 0xC2, 0xDF, 0xE0, 0xE1, 0xEC, 0xED, 0xEE, 0xEF, 0xF0, 0xF1, 0xF3, 0xF4, 0xF5, 0xFF}
	for _, a := range edges {
		checkDecode(t, string([]byte{a}))
		for _, b := range edges {
			checkDecode(t, string([]byte{a, b}))
			for _, c := range edges {
				checkDecode(t, string([]byte{a, b, c}))
				for _, d := range edges {
					checkDecode(t, string([]byte{a, b, c, d}))
					checkDecode(t, string([]byte{'x', a, b, c, d, 'y'}))
				}
			}
		}
	}
}

func TestUs1DecodeAllPoints(t *testing.T) {
	for r := rune(0); r <= utf8.MaxRune; r++ {
		if utf8.ValidRune(r) {
			checkDecode(t, string(r))
		}
	}
}

func TestUs1Encode(t *testing.T) {
	rows := []struct {
		units []uint16
		bytes string
	}{
		{nil, ""},
		{[]uint16{'a', 0, 0x7F, 0x80}, "a\x00\x7f\xc2\x80"},
		{[]uint16{0x7FF, 0x800, 0xFFFF}, "\xdf\xbf\xe0\xa0\x80\xef\xbf\xbf"},
		{[]uint16{0xFFFD}, "\xef\xbf\xbd"},
		{[]uint16{0xD7FF, 0xE000}, "\xed\x9f\xbf\xee\x80\x80"},
		{[]uint16{0xD83D, 0xDE00}, "\xf0\x9f\x98\x80"},
		{[]uint16{0xD800, 0xDC00, 0xDBFF, 0xDFFF}, "\xf0\x90\x80\x80\xf4\x8f\xbf\xbf"},
		{[]uint16{0xDE00, 0xD83D}, `\uDE00\uD83D`},
		{[]uint16{0xD83D, 0xD83D, 0xDE00, 0xDE00}, "\\uD83D\xf0\x9f\x98\x80\\uDE00"},
		{[]uint16{0xDBFF, 'a', 0xDFFF}, `\uDBFFa\uDFFF`},
		{[]uint16{0xD800, 0xE000, 0xDC00}, "\\uD800\xee\x80\x80\\uDC00"},
		{[]uint16{0xDABC, 0xDBFF}, `\uDABC\uDBFF`},
		{[]uint16{0xDC00, 0xDC00, 0xDFFF, 0xDE00}, `\uDC00\uDC00\uDFFF\uDE00`},
		{[]uint16{0xDBFF, 0xDBFF, 0xDC00}, "\\uDBFF\xf4\x8f\xb0\x80"},
		{[]uint16{'\\', 'u', 'D', '8', '0', '0'}, `\uD800`},
	}
	for _, row := range rows {
		if b := ustr.Encode(ustr.Make(row.units)); b != row.bytes {
			t.Errorf("Encode(%x): %q, want %q", row.units, b, row.bytes)
		}
	}
}

func TestUs1EncodeLone(t *testing.T) {
	const digits = "0123456789ABCDEF"
	for u := 0xD800; u < 0xE000; u++ {
		want := `\u` + string([]byte{digits[u>>12], digits[u>>8&15], digits[u>>4&15], digits[u&15]})
		if b := ustr.Encode(ustr.Make([]uint16{uint16(u)})); b != want {
			t.Errorf("Encode(%x): %q", u, b)
		}
	}
}

func TestUs2(t *testing.T) {
	if s := ustr.Wide("a\x00\xff"); s != "\x00a\x00\x00\x00\xff" {
		t.Errorf("Wide: %x", s)
	}
	if ustr.Wide("") != "" || ustr.Make(nil) != "" || len(ustr.Units("")) != 0 || ustr.Len("") != 0 {
		t.Error("of nothing is made something")
	}
	l := []uint16{0, 0x12, 0x1200, 0xABCD, 0xD800, 0xFFFF}
	s := ustr.Make(l)
	if s != "\x00\x00\x00\x12\x12\x00\xab\xcd\xd8\x00\xff\xff" {
		t.Errorf("Make: %x", s)
	}
	if !slices.Equal(ustr.Units(s), l) || ustr.Len(s) != len(l) {
		t.Errorf("Units: %x, Len: %d", ustr.Units(s), ustr.Len(s))
	}
	for i, u := range l {
		if v, ok := ustr.Unit(s, i); v != u || !ok {
			t.Errorf("Unit(%d): %x, %t", i, v, ok)
		}
	}
	for _, i := range []int{-1, len(l), math.MinInt, math.MaxInt, math.MaxInt/2 + 1} {
		if u, ok := ustr.Unit(s, i); u != 0 || ok {
			t.Errorf("Unit(%d): %x, %t", i, u, ok)
		}
	}
}

func TestUs3Slice(t *testing.T) {
	s := ustr.Wide("banana")
	rows := []struct {
		from, to int
		want     string
	}{
		{0, 6, "banana"}, {1, 3, "an"}, {5, 6, "a"}, {2, 2, ""}, {3, 2, ""}, {6, 6, ""},
		{2, 99, "nana"}, {-4, 2, "ba"}, {-4, -2, ""}, {7, 9, ""}, {9, 7, ""},
		{math.MinInt, math.MaxInt, "banana"}, {math.MaxInt, math.MinInt, ""}, {math.MaxInt/2 + 2, math.MaxInt, ""},
	}
	for _, row := range rows {
		if got := ustr.Slice(s, row.from, row.to); got != ustr.Wide(row.want) {
			t.Errorf("Slice(%d, %d): %q, want %q", row.from, row.to, got, row.want)
		}
	}
}

// stands tells whether the units of t stand in s at i.
func stands(s, t []uint16, i int) bool {
	return i >= 0 && i+len(t) <= len(s) && slices.Equal(s[i:i+len(t)], t)
}

func checkSearch(t *testing.T, s, part string) {
	t.Helper()
	su, pu := ustr.Units(s), ustr.Units(part)
	for from := -2; from <= len(su)+2; from++ {
		first, last := -1, -1
		for i := range len(su) + 1 {
			if stands(su, pu, i) && i >= from && first < 0 {
				first = i
			}
			if stands(su, pu, i) && i <= from {
				last = i
			}
		}
		if i := ustr.Index(s, part, from); i != first {
			t.Errorf("Index(%x, %x, %d): %d, want %d", s, part, from, i, first)
		}
		if i := ustr.LastIndex(s, part, from); i != last {
			t.Errorf("LastIndex(%x, %x, %d): %d, want %d", s, part, from, i, last)
		}
	}
}

// The units are such that their bytes stand also half a unit off.
func TestUs3SearchAll(t *testing.T) {
	parts := texts([]uint16{0x0000, 0x0001, 0x0100}, 3)
	for _, s := range texts([]uint16{0x0000, 0x0001, 0x0100}, 5) {
		for _, part := range parts {
			checkSearch(t, s, part)
		}
	}
}

// Parts that begin and end alike.
func TestUs3SearchBorders(t *testing.T) {
	parts := texts([]uint16{0x0101, 0x0102}, 6)
	for _, s := range texts([]uint16{0x0101, 0x0102}, 9) {
		for _, part := range parts {
			checkSearch(t, s, part)
		}
	}
}

func TestUs3SearchEdges(t *testing.T) {
	banana, an := ustr.Wide("banana"), ustr.Wide("an")
	if ustr.Index(banana, an, 2) != 3 || ustr.LastIndex(banana, an, 2) != 1 {
		t.Error("the chapter's examples")
	}
	if ustr.Index(banana, an, math.MinInt) != 1 || ustr.Index(banana, an, math.MaxInt) != -1 {
		t.Error("Index from far away")
	}
	if ustr.LastIndex(banana, an, math.MaxInt) != 3 || ustr.LastIndex(banana, an, math.MinInt) != -1 {
		t.Error("LastIndex from far away")
	}
	if ustr.Index(banana, "", 6) != 6 || ustr.Index(banana, "", 7) != -1 || ustr.Index("", "", 0) != 0 {
		t.Error("Index of the empty text")
	}
	if ustr.LastIndex(banana, "", 7) != 6 || ustr.LastIndex(banana, "", -1) != -1 || ustr.LastIndex("", "", 0) != 0 {
		t.Error("LastIndex of the empty text")
	}
}

func TestUs3Compare(t *testing.T) {
	rows := []struct {
		a, b []uint16
		want int
	}{
		{nil, nil, 0},
		{nil, []uint16{0}, -1},
		{[]uint16{'a', 'b'}, []uint16{'a', 'b'}, 0},
		{[]uint16{'a', 'b'}, []uint16{'a', 'b', 0}, -1},
		{[]uint16{'b'}, []uint16{'a', 'b'}, 1},
		{[]uint16{0x0100}, []uint16{0x00FF, 0xFFFF}, 1},
		{[]uint16{0xD83D, 0xDE00}, []uint16{0xFF5E}, -1},
		{[]uint16{0x8000}, []uint16{0x7FFF}, 1},
	}
	for _, row := range rows {
		a, b := ustr.Make(row.a), ustr.Make(row.b)
		if ustr.Compare(a, b) != row.want || ustr.Compare(b, a) != -row.want {
			t.Errorf("Compare(%x, %x): %d", row.a, row.b, ustr.Compare(a, b))
		}
	}
}

// whites and lines are the chapter's lists.
func whites() []uint16 {
	l := []uint16{0x0009, 0x000B, 0x000C, 0x0020, 0x00A0, 0x1680, 0x180E, 0x202F, 0x205F, 0x3000, 0xFEFF}
	for u := uint16(0x2000); u <= 0x200A; u++ {
		l = append(l, u)
	}
	return l
}

func lines() []uint16 { return []uint16{0x000A, 0x000D, 0x2028, 0x2029} }

func TestUs4Kinds(t *testing.T) {
	const ascii = "$ABCDEFGHIJKLMNOPQRSTUVWXYZ_abcdefghijklmnopqrstuvwxyz"
	for i := range 0x10000 {
		u := uint16(i)
		space, ends := slices.Contains(whites(), u), slices.Contains(lines(), u)
		start := strings.IndexByte(ascii, byte(u)) >= 0
		digit := u >= 0x30 && u < 0x3A
		if u >= 0x80 {
			start = !space && !ends
		}
		if ustr.Space(u) != space || ustr.Ends(u) != ends {
			t.Errorf("Space(%x): %t, Ends: %t", u, ustr.Space(u), ustr.Ends(u))
		}
		if ustr.Start(u) != start || ustr.Part(u) != (start || digit) {
			t.Errorf("Start(%x): %t, Part: %t", u, ustr.Start(u), ustr.Part(u))
		}
	}
}

// capitals and smalls have the chapter's rules for one unit.
func capitals(i int) []uint16 {
	switch {
	case i == 0xDF:
		return []uint16{'S', 'S'}
	case i == 0xB5:
		return []uint16{0x039C}
	case i == 0xFF:
		return []uint16{0x0178}
	case i == 0xF7:
		return []uint16{0xF7}
	case i >= 'a' && i <= 'z', i >= 0xE0 && i <= 0xFE:
		return []uint16{uint16(i - 32)}
	}
	return []uint16{uint16(i)}
}

func smalls(i int) []uint16 {
	if i >= 'A' && i <= 'Z' || i >= 0xC0 && i <= 0xDE && i != 0xD7 {
		return []uint16{uint16(i + 32)}
	}
	return []uint16{uint16(i)}
}

func TestUs4Letters(t *testing.T) {
	var all, upper, lower []uint16
	for i := range 0x10000 {
		all = append(all, uint16(i))
		upper = append(upper, capitals(i)...)
		lower = append(lower, smalls(i)...)
	}
	if got := ustr.Units(ustr.Upper(ustr.Make(all))); !slices.Equal(got, upper) {
		t.Error("Upper of all units")
	}
	if got := ustr.Units(ustr.Lower(ustr.Make(all))); !slices.Equal(got, lower) {
		t.Error("Lower of all units")
	}
	if ustr.Upper(text(t, "straße")) != ustr.Wide("STRASSE") || ustr.Upper("") != "" || ustr.Lower("") != "" {
		t.Error("Upper, Lower")
	}
	if ustr.Upper(text(t, "aÿµ÷é")) != text(t, "AŸΜ÷É") || ustr.Lower(text(t, "AŸΜ×É")) != text(t, "aŸΜ×é") {
		t.Error("units that have no like")
	}
}

func TestUs4Trim(t *testing.T) {
	blanks := ustr.Make(append(whites(), lines()...))
	inner := ustr.Wide("a") + blanks + ustr.Wide("b")
	if ustr.Trim(blanks+inner+blanks) != inner || ustr.Trim(inner) != inner {
		t.Error("white space at the ends")
	}
	if ustr.Trim(blanks) != "" || ustr.Trim("") != "" {
		t.Error("nothing but white space")
	}
	if ustr.Trim(blanks+inner) != inner || ustr.Trim(inner+blanks) != inner {
		t.Error("white space at one end")
	}
	for i := range 0x10000 {
		u := uint16(i)
		s := ustr.Make([]uint16{u, 'x', u})
		want := s
		if slices.Contains(whites(), u) || slices.Contains(lines(), u) {
			want = ustr.Wide("x")
		}
		if ustr.Trim(s) != want {
			t.Errorf("Trim of %x", u)
		}
	}
}

func TestUs5Repeat(t *testing.T) {
	rows := []struct {
		s       string
		n, most int
		want    string
		ok      bool
	}{
		{"an", 3, 6, "ananan", true},
		{"an", 3, 5, "", false},
		{"an", 3, 7, "ananan", true},
		{"an", 1, 2, "an", true},
		{"an", 1, 1, "", false},
		{"an", 1, 0, "", false},
		{"an", 1, -1, "", false},
		{"a", 1, math.MinInt, "", false},
		{"an", 2, math.MaxInt, "anan", true},
		{"an", 0, 0, "", true},
		{"an", -1, -1, "", true},
		{"an", 0, -9, "", true},
		{"an", math.MinInt, math.MinInt, "", true},
		{"", 5, 0, "", true},
		{"", math.MaxInt, -1, "", true},
		{"an", math.MaxInt, math.MaxInt - 1, "", false},
		{"an", math.MaxInt/2 + 1, 8, "", false},
		{"an", math.MaxInt/2 + 2, 8, "", false},
	}
	for _, row := range rows {
		got, ok := ustr.Repeat(ustr.Wide(row.s), row.n, row.most)
		if got != ustr.Wide(row.want) || ok != row.ok {
			t.Errorf("Repeat(%q, %d, %d): %q, %t", row.s, row.n, row.most, got, ok)
		}
	}
}

// split is what Split promises of a sep that is not empty.
func split(s, sep []uint16) []string {
	var parts []string
	var part []uint16
	for i := 0; i < len(s); {
		if stands(s, sep, i) {
			parts, part = append(parts, ustr.Make(part)), nil
			i += len(sep)
		} else {
			part = append(part, s[i])
			i++
		}
	}
	return append(parts, ustr.Make(part))
}

func TestUs5SplitAll(t *testing.T) {
	seps := texts([]uint16{0x0000, 0x0001, 0x0100}, 3)
	for _, s := range texts([]uint16{0x0000, 0x0001, 0x0100}, 5) {
		for _, sep := range seps[1:] {
			if got := ustr.Split(s, sep); !slices.Equal(got, split(ustr.Units(s), ustr.Units(sep))) {
				t.Errorf("Split(%x, %x): %x", s, sep, got)
			}
		}
	}
}

func TestUs5SplitEdges(t *testing.T) {
	rows := []struct {
		s, sep string
		want   []string
	}{
		{"a,b,", ",", []string{"a", "b", ""}},
		{",a", ",", []string{"", "a"}},
		{"aaa", "aa", []string{"", "a"}},
		{"abc", "", []string{"a", "b", "c"}},
		{"", "", nil},
		{"", ",", []string{""}},
		{"ab", "abc", []string{"ab"}},
		{"ab", "ab", []string{"", ""}},
	}
	for _, row := range rows {
		got := ustr.Split(ustr.Wide(row.s), ustr.Wide(row.sep))
		if !slices.EqualFunc(got, row.want, func(a, b string) bool { return a == ustr.Wide(b) }) {
			t.Errorf("Split(%q, %q): %q", row.s, row.sep, got)
		}
	}
	if l := ustr.Split("\xd8\x3d\xde\x00", ""); !slices.Equal(l, []string{"\xd8\x3d", "\xde\x00"}) {
		t.Errorf("a pair is two units: %x", l)
	}
}

func TestUs5Join(t *testing.T) {
	a, b, sep := ustr.Wide("a"), ustr.Wide("bc"), ustr.Wide(", ")
	if got := ustr.Join([]string{a, "", b}, sep); got != ustr.Wide("a, , bc") {
		t.Errorf("Join: %q", got)
	}
	if ustr.Join(nil, sep) != "" || ustr.Join([]string{b}, sep) != b || ustr.Join([]string{a, b}, "") != a+b {
		t.Error("Join of few, or without a text between")
	}
}

func TestUs6(t *testing.T) {
	units := []uint16{'u', 'D', 0x00E9, 0x20AC, 0xD83D, 0xDE00, 0xFFFF}
	for _, s := range texts(units, 4) {
		if lone(ustr.Units(s)) {
			continue
		}
		got, place, errno := ustr.Decode(ustr.Encode(s))
		if got != s || place != 0 || errno != api.OK {
			t.Errorf("Decode of Encode of %x: %x, %d, %d", s, got, place, errno)
		}
	}
	for _, b := range []string{"", "a\\b", "é€😀\U0010FFFF", "\x00\x7f\ufffd\uffff", `\uD800`} {
		if got := ustr.Encode(text(t, b)); got != b {
			t.Errorf("Encode of Decode of %q: %q", b, got)
		}
	}
}

// lone tells whether there is a lone unit.
func lone(l []uint16) bool {
	for i := 0; i < len(l); i++ {
		if l[i] < 0xD800 || l[i] > 0xDFFF {
			continue
		}
		if l[i] > 0xDBFF || i+1 == len(l) || l[i+1] < 0xDC00 || l[i+1] > 0xDFFF {
			return true
		}
		i++
	}
	return false
}

func TestUs7(t *testing.T) {
	units := []uint16{'a', 'A', ' ', 0x2028}
	all, parts := texts(units, 4), texts(units, 2)
	for i, s := range all {
		for _, sep := range parts[1:] {
			if ustr.Join(ustr.Split(s, sep), sep) != s {
				t.Errorf("Join of Split of %x by %x", s, sep)
			}
		}
		for cut := range ustr.Len(s) + 1 {
			if ustr.Slice(s, 0, cut)+ustr.Slice(s, cut, ustr.Len(s)) != s {
				t.Errorf("slices of %x at %d", s, cut)
			}
		}
		if ustr.Trim(ustr.Trim(s)) != ustr.Trim(s) || ustr.Lower(ustr.Lower(s)) != ustr.Lower(s) {
			t.Errorf("Trim of Trim, or Lower of Lower, of %x", s)
		}
		other := all[(i*37+11)%len(all)]
		if ustr.Compare(s, other) != strings.Compare(s, other) {
			t.Errorf("Compare(%x, %x)", s, other)
		}
		if ustr.Index(s, other, 0) >= 0 && ustr.Len(other) > ustr.Len(s) {
			t.Errorf("%x stands in %x", other, s)
		}
	}
}
