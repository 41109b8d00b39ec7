package lexer_test

import (
	"math"
	"slices"
	"strings"
	"sync"
	"testing"

	"quill/api"
	"quill/lexer"
	"quill/ustr"
)

// heard is what a call tells.
type heard struct {
	l      []api.Token
	s      string
	place  int
	errno  api.Errno
	answer bool
}

func sameHeard(a, b heard) bool {
	return sameAll(a.l, b.l) && a.s == b.s && a.place == b.place && a.errno == b.errno && a.answer == b.answer
}

// calls is what all calls tell of these arguments.
func calls(s string, at int) []heard {
	var told []heard
	for _, operand := range []bool{false, true} {
		x, place, errno := lexer.Next(s, at, operand)
		told = append(told, heard{l: []api.Token{x}, place: place, errno: errno})
	}
	l, place, errno := lexer.All(s)
	spelt, wrong := lexer.Spell(s)
	return append(told,
		heard{l: l, place: place, errno: errno},
		heard{s: spelt, errno: wrong},
		heard{s: lexer.Quote(s)},
		heard{answer: lexer.Reserved(s)},
		heard{answer: lexer.Named(s)})
}

func anyPlaces() []int {
	return []int{math.MinInt, math.MinInt + 1, -1 << 32, -2, -1, 0, 1, 2, 3, 7, 1 << 31, math.MaxInt / 2, math.MaxInt/2 + 1, math.MaxInt - 1, math.MaxInt}
}

// anyTexts are texts of all kinds, and strings of an odd number of bytes.
func anyTexts() []string {
	l := []string{"", "\x00", "a", "'", "\xFF", "\x00'\x00", "\x00\\\x00", "\x00\\\x00u\x00", "\xD8\x00", "\xDC\x00\xD8", "\x00/\x00*\x00", "\x000\x00x\x00", "\x20\x28\x00"}
	for _, b := range slices.Concat(pieces(), wrongPieces(), []string{"var a = 1;", "a b c", "'a' + \"b\"", "x /* \n */ y // z", "if (a) /b/", "0x1F.5e3", `\u0061\u0062 \u0069f`, "f('\\\n', \"\\0\")", "\n\n#"}) {
		s, _, _ := ustr.Decode(b)
		l = append(l, s, s+"\x00", s+"1")
	}
	return l
}

// each calls f with arguments of all kinds.
func each(f func(s string, at int)) {
	for _, s := range anyTexts() {
		for _, at := range anyPlaces() {
			f(s, at)
		}
	}
}

func TestR1NoPanic(t *testing.T) {
	each(func(s string, at int) { calls(s, at) })
	draw := draws()
	for range 20000 {
		var b strings.Builder
		for range draw() % 16 {
			b.WriteByte("\x00\x00\x00\x00\x00\x0001e.x'\"\\un/*\n \xD8\xFF"[draw()%22])
		}
		calls(b.String(), draw()%10-1)
		calls(ustr.Make(ustr.Units(b.String())), draw()%10-1)
	}
}

// Long sources of parts that are alike: read again from many places, or looked
// through for an end from each, they would take many minutes.
func TestR1Ends(t *testing.T) {
	const size = 1 << 18
	for _, part := range []string{
		"a", "1", "0", ".", "1.", "1e", "'", `"`, `\`, `'\`, "'\\\n", `\u0061`, "/", "/*", "*/", "/**/", "//", "//\n", "/*\n*/", "\n", " ", "+", ">", "=", "(", "if ", "'a' ", "1 ", "''", "\\\n", "\u2028", "😀", "0x", "0x1 ", "#", "/* ' */ '/*' ", "\x00",
	} {
		s := text(t, strings.Repeat(part, size/len(part)))
		calls(s, 0)
		calls(text(t, "'")+s+text(t, "'"), 0)
		calls(text(t, "/*")+s, 0)
		calls(text(t, "a")+s, 1)
	}
}

// Beside an error there is nothing but the place, and without ErrSyntax the place
// is 0.
func TestR2ZeroBesideErrors(t *testing.T) {
	refused := 0
	each(func(s string, at int) {
		for i, c := range calls(s, at) {
			if c.errno != api.OK && c.errno != api.ErrArg && c.errno != api.ErrSyntax {
				t.Errorf("call %d of %q: error %d", i, seen(s), c.errno)
			}
			if c.errno != api.ErrSyntax && c.place != 0 {
				t.Errorf("call %d of %q: place %d", i, seen(s), c.place)
			}
			if c.errno == api.OK {
				continue
			}
			refused++
			for _, x := range c.l {
				if i == 2 || !same(x, api.Token{}) {
					t.Errorf("call %d of %q: %+v beside error %d", i, seen(s), x, c.errno)
				}
			}
			if c.s != "" {
				t.Errorf("call %d of %q: %q beside error %d", i, seen(s), c.s, c.errno)
			}
		}
	})
	if refused < 1000 {
		t.Errorf("%d refused alone", refused)
	}
}

// A place that may not be is told ahead of what can't be read.
func TestR2FirstError(t *testing.T) {
	for _, src := range []string{"#", "/*", "'", "/"} {
		for _, at := range []int{-1, 3, math.MaxInt} {
			refuses(t, text(t, src), at, true, 0, api.ErrArg)
		}
	}
}

// What a chapter does not name for a kind is zero.
func TestR2ZeroFields(t *testing.T) {
	draw := draws()
	for range 500 {
		l, _, _ := lexer.All(drawn(t, draw, pieces(), 20))
		for _, x := range l {
			named := x.Kind == api.TokenName || x.Kind == api.TokenWord
			if x.Escaped && !named || x.Kind != api.TokenNumber && math.Float64bits(x.Num) != 0 || x.Text != "" && (x.Kind == api.TokenNumber || x.Kind == api.TokenEnd) {
				t.Errorf("%+v", x)
			}
		}
	}
	holds(t, text(t, `'\u0061'`), 0, true, api.Token{Kind: api.TokenString, Text: unit('a'), End: 8})
}

// Answers are new: what is done with one, and with its spare room, no later call
// tells, and no earlier answer.
func TestR3AnswersAreNew(t *testing.T) {
	src := text(t, "var a = 'x', b = 1.5; a + b")
	kept, _, _ := lexer.All(src)
	copied := slices.Clone(kept)
	spoilt, _, _ := lexer.All(src)
	clear(spoilt[:cap(spoilt)])
	_ = append(spoilt[:1], copied...)
	again, _, _ := lexer.All(src)
	if !sameAll(kept, copied) || !sameAll(again, copied) {
		t.Error("All told a list that it keeps")
	}
	if src != text(t, "var a = 'x', b = 1.5; a + b") {
		t.Error("the source was changed")
	}
}

func TestR4OnlyArguments(t *testing.T) {
	ask := func() []heard {
		var l []heard
		each(func(s string, at int) { l = append(l, calls(s, at)...) })
		return l
	}
	want := ask()
	var all [4][]heard
	var group sync.WaitGroup
	for i := range all {
		group.Go(func() { all[i] = ask() })
	}
	group.Wait()
	for _, l := range all {
		if !slices.EqualFunc(l, want, sameHeard) {
			t.Error("the same calls told something else")
		}
	}
}

// Of what can't be read the first is told, by the order of the source.
func TestR5First(t *testing.T) {
	for src, want := range map[string]int{"# '": 0, "' #": 0, "a ' # \n": 2, "/* # '": 0, "'#' #": 4, "// #\n @ #": 6, "1a #": 0, `\x #`: 0} {
		if _, place, errno := lexer.All(text(t, src)); place != want || errno != api.ErrSyntax {
			t.Errorf("%q: %d, %d", src, place, errno)
		}
	}
}
