package ustr_test

import (
	"math"
	"slices"
	"strings"
	"sync"
	"testing"

	"quill/api"
	"quill/ustr"
)

// odd is a text with half a unit more behind it, which counts not.
func odd(s string) string { return s + "\x61" }

func TestHalfUnits(t *testing.T) {
	a, ab, comma := ustr.Wide("a"), ustr.Wide("aB a"), ustr.Wide(",")
	if ustr.Encode(odd(ab)) != "aB a" || ustr.Len(odd(ab)) != 4 || ustr.Len("\x00") != 0 || len(ustr.Units(odd(ab))) != 4 {
		t.Error("Encode, Len, Units")
	}
	if u, ok := ustr.Unit(odd(ab), 4); u != 0 || ok {
		t.Error("Unit")
	}
	if ustr.Slice(odd(ab), 1, 9) != ustr.Wide("B a") {
		t.Error("Slice")
	}
	if ustr.Index(odd(ab), odd(a), 1) != 3 || ustr.Index(ab, "\x61", 4) != 4 || ustr.Index(odd(ab), "", 5) != -1 {
		t.Error("Index")
	}
	if ustr.LastIndex(odd(ab), odd(a), 9) != 3 || ustr.LastIndex(odd(ab), "\x61", 9) != 4 {
		t.Error("LastIndex")
	}
	if ustr.Compare(odd(ab), ab) != 0 || ustr.Compare(ab, odd(ab)) != 0 || ustr.Compare(odd(a), ab) != -1 {
		t.Error("Compare")
	}
	if ustr.Upper(odd(ab)) != ustr.Wide("AB A") || ustr.Lower(odd(ab)) != ustr.Wide("ab a") || ustr.Trim(odd(ustr.Wide(" x "))) != ustr.Wide("x") || ustr.Trim(odd(ab)) != ab {
		t.Error("Upper, Lower, Trim")
	}
	if s, ok := ustr.Repeat(odd(a), 2, 2); s != ustr.Wide("aa") || !ok {
		t.Error("Repeat")
	}
	if s, ok := ustr.Repeat("\x61", 2, 0); s != "" || !ok {
		t.Error("Repeat of nothing")
	}
	if l := ustr.Split(odd(a+comma+ab), odd(comma)); !slices.Equal(l, []string{a, ab}) {
		t.Errorf("Split: %q", l)
	}
	if l := ustr.Split(odd(ab), "\x61"); len(l) != 4 || l[3] != a {
		t.Errorf("Split by nothing: %q", l)
	}
	if l := ustr.Split("\x61", comma); !slices.Equal(l, []string{""}) {
		t.Errorf("Split of nothing: %q", l)
	}
	if s := ustr.Join([]string{odd(a), "\x61", odd(ab)}, odd(comma)); s != a+comma+comma+ab {
		t.Errorf("Join: %q", s)
	}
}

// calls is what all calls tell of these arguments, as numbers and texts.
func calls(s, part string, i, n int) ([]string, []int) {
	decoded, place, errno := ustr.Decode(s)
	repeated, repeatable := ustr.Repeat(s, n, 64)
	unit, has := ustr.Unit(s, i)
	told := []string{
		decoded, repeated, ustr.Encode(s), ustr.Wide(s), ustr.Make(ustr.Units(s)),
		ustr.Slice(s, i, n), ustr.Slice(s, n, i), ustr.Upper(s), ustr.Lower(s), ustr.Trim(s),
	}
	told = append(told, ustr.Split(s, part)...)
	told = append(told, ustr.Join([]string{s, part}, s))
	numbers := []int{
		place, int(errno), int(unit), ustr.Len(s), ustr.Compare(s, part),
		ustr.Index(s, part, i), ustr.LastIndex(s, part, i),
	}
	for _, b := range []bool{repeatable, has, ustr.Space(unit), ustr.Ends(unit), ustr.Start(unit), ustr.Part(unit)} {
		if b {
			numbers = append(numbers, 1)
		} else {
			numbers = append(numbers, 0)
		}
	}
	return told, numbers
}

// wrongTexts are texts and such as are none.
func wrongTexts() []string {
	return []string{"", "\x00", "\xff", "\x00a", "\x00a\x00", "\xd8\x00", "\xdc\x00\xd8", "\xd8\x00\xdc\x00\xff", strings.Repeat("\x00 ", 9), "\xfe\xff\x20\x28\x00"}
}

func wrongNumbers() []int {
	return []int{math.MinInt, math.MinInt + 1, -3, -1, 0, 1, 2, 7, math.MaxInt / 2, math.MaxInt/2 + 1, math.MaxInt - 1, math.MaxInt}
}

func TestR1NoPanic(t *testing.T) {
	for _, s := range wrongTexts() {
		for _, part := range wrongTexts() {
			for _, i := range wrongNumbers() {
				for _, n := range wrongNumbers() {
					calls(s, part, i, n)
				}
			}
		}
	}
	for _, most := range wrongNumbers() {
		for _, n := range []int{math.MinInt, 0, math.MaxInt/2 + 2, math.MaxInt} {
			if s, _ := ustr.Repeat("\x00a\x00b", n, most); s != "" {
				t.Errorf("Repeat(%d, %d)", n, most)
			}
		}
	}
	if ustr.Make(nil) != "" || ustr.Join(nil, "x") != "" {
		t.Error("nil")
	}
}

// Texts that are alike in great parts: looked for unit by unit at each place
// they would take many minutes.
func TestR1Ends(t *testing.T) {
	const size = 1 << 20
	s, _ := ustr.Repeat(ustr.Wide("a"), size, size)
	b := ustr.Wide("b")
	half := ustr.Slice(s, 0, size/2)
	if ustr.Index(s, half+b, 0) != -1 || ustr.LastIndex(s, b+half, size) != -1 {
		t.Error("a text that stands nowhere")
	}
	if ustr.Index(s+b, half+b, 0) != size/2 || ustr.LastIndex(b+s, b+half, size) != 0 {
		t.Error("a text that stands at an end")
	}
	if l := ustr.Split(s+b, half+b); len(l) != 2 || l[0] != half || l[1] != "" {
		t.Error("Split")
	}
}

func TestR2ZeroBesideErrors(t *testing.T) {
	if s, place, errno := ustr.Decode("abc\xff"); s != "" || place != 3 || errno != api.ErrEncoding {
		t.Errorf("Decode: %q, %d, %d", s, place, errno)
	}
	if s, place, errno := ustr.Decode("abc"); s == "" || place != 0 || errno != api.OK {
		t.Errorf("Decode: %q, %d, %d", s, place, errno)
	}
	if u, ok := ustr.Unit(ustr.Wide("abc"), 3); u != 0 || ok {
		t.Errorf("Unit: %d, %t", u, ok)
	}
	if s, ok := ustr.Repeat(ustr.Wide("abc"), 2, 5); s != "" || ok {
		t.Errorf("Repeat: %q, %t", s, ok)
	}
}

func TestR3ArgumentsAreLeft(t *testing.T) {
	room := []uint16{1, 2, 3, 4}
	s := ustr.Make(room[:2])
	if !slices.Equal(room, []uint16{1, 2, 3, 4}) {
		t.Errorf("Make changed its list: %v", room)
	}
	room[0] = 9
	if s != "\x00\x01\x00\x02" {
		t.Errorf("Make kept its list: %x", s)
	}
	parts := []string{"\x00a", "\x00b", "\x00c", "\x00d"}
	joined := ustr.Join(parts[:2], "\x00,")
	if !slices.Equal(parts, []string{"\x00a", "\x00b", "\x00c", "\x00d"}) {
		t.Errorf("Join changed its list: %q", parts)
	}
	parts[0] = "\x00x"
	if joined != "\x00a\x00,\x00b" {
		t.Errorf("Join kept its list: %q", joined)
	}
}

func TestR3AnswersAreNew(t *testing.T) {
	s, comma := ustr.Wide("a,b,c"), ustr.Wide(",")
	units := ustr.Units(s)
	wantUnits := slices.Clone(units)
	clear(units[:cap(units)])
	if !slices.Equal(ustr.Units(s), wantUnits) {
		t.Error("Units told a list that it keeps")
	}
	for _, sep := range []string{"", comma} {
		l := ustr.Split(s, sep)
		want := slices.Clone(l)
		clear(l[:cap(l)])
		if !slices.Equal(ustr.Split(s, sep), want) || s != ustr.Wide("a,b,c") {
			t.Error("Split told a list that it keeps")
		}
	}
}

func TestR3NilIsEmpty(t *testing.T) {
	if ustr.Make(nil) != ustr.Make([]uint16{}) || ustr.Join(nil, "\x00a") != ustr.Join([]string{}, "\x00a") {
		t.Error("nil and the empty list are not the same")
	}
}

func TestR4OnlyArguments(t *testing.T) {
	type answer struct {
		texts   []string
		numbers []int
	}
	ask := func() []answer {
		var l []answer
		for _, s := range append(wrongTexts(), ustr.Wide("banana")) {
			for _, i := range []int{-1, 0, 1, 3} {
				texts, numbers := calls(s, "\x00a", i, 2)
				l = append(l, answer{texts, numbers})
			}
		}
		return l
	}
	first := ask()
	var all [4][]answer
	var group sync.WaitGroup
	for i := range all {
		group.Go(func() { all[i] = ask() })
	}
	group.Wait()
	for _, l := range all {
		if !slices.EqualFunc(l, first, func(a, b answer) bool {
			return slices.Equal(a.texts, b.texts) && slices.Equal(a.numbers, b.numbers)
		}) {
			t.Error("the same calls told something else")
		}
	}
}

// First, least and next are by units: a code point above FFFF is below FFFF.
func TestR5ByUnits(t *testing.T) {
	smile, last := "\xd8\x3d\xde\x00", "\xff\xff"
	if ustr.Compare(smile, last) != -1 || ustr.Compare(last, smile) != 1 {
		t.Error("Compare")
	}
	if ustr.Index(smile+last, last, 0) != 2 || ustr.LastIndex(last+smile+last, last, 3) != 3 || ustr.Index(smile, "\xde\x00", 0) != 1 {
		t.Error("places")
	}
	if _, place, _ := ustr.Decode("é\xff\xfe"); place != 2 {
		t.Errorf("the first wrong byte: %d", place)
	}
}
