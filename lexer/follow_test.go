package lexer_test

import (
	"regexp"
	"slices"
	"testing"

	"quill/api"
	"quill/lexer"
	"quill/ustr"
)

// sources are many that can be read, with their tokens.
func sources(t *testing.T, f func(src string, l []api.Token)) {
	t.Helper()
	draw := draws()
	read := 0
	for range 2000 {
		src := drawn(t, draw, pieces(), draw()%30)
		if l, _, errno := lexer.All(src); errno == api.OK {
			f(src, l)
			read++
		}
	}
	if read < 500 {
		t.Errorf("%d sources alone could be read", read)
	}
}

// Tokens stand one behind the other, with gaps between, and one of units but the
// TokenEnd.
func TestLx4Order(t *testing.T) {
	gap := regexp.MustCompile(`^(?:[` + whites + ends + `]|//[^` + ends + `]*|/\*(?s:.*?)\*/)*$`)
	line := regexp.MustCompile(`[` + ends + `]`)
	sources(t, func(src string, l []api.Token) {
		at := 0
		for _, x := range l {
			if x.Pos < at || x.End < x.Pos || x.End == x.Pos && x.Kind != api.TokenEnd {
				t.Errorf("%q: %+v behind %d", seen(src), x, at)
				continue
			}
			between := runes(ustr.Slice(src, at, x.Pos))
			if !gap.MatchString(between) || x.Newline != line.MatchString(between) {
				t.Errorf("%q: %q ahead of %+v", seen(src), between, x)
			}
			at = x.End
		}
	})
}

// A name, a word or a mark that is not Escaped is written as it says.
func TestLx4AsWritten(t *testing.T) {
	sources(t, func(src string, l []api.Token) {
		for _, x := range l {
			written := ustr.Slice(src, x.Pos, x.End)
			switch x.Kind {
			case api.TokenName, api.TokenWord:
				if (x.Text == written) == x.Escaped || !lexer.Named(x.Text) || lexer.Reserved(x.Text) != (x.Kind == api.TokenWord) {
					t.Errorf("%q: %+v", seen(src), x)
				}
			case api.TokenMark:
				if x.Text != written || !slices.Contains(allMarks(), ustr.Encode(x.Text)) {
					t.Errorf("%q: %+v", seen(src), x)
				}
			}
		}
	})
}

// anyUnits are texts of all units, edges among them more often than others.
func anyUnits(draw func() int) string {
	edges := []uint16{0, 8, 9, 10, 13, 0x1F, ' ', '"', '\'', '0', '9', 'A', 'a', 'u', 'x', '\\', '/', '~', 0x7F, 0x80, 0xA0, 0xE9, 0x2028, 0x2029, 0xD800, 0xDBFF, 0xDC00, 0xDFFF, 0xFEFF, 0xFFFF}
	var l []uint16
	for range draw() % 12 {
		if draw()%3 == 0 {
			l = append(l, uint16(draw()))
		} else {
			l = append(l, edges[draw()%len(edges)])
		}
	}
	return ustr.Make(l)
}

// Quote of s is the string s, and nothing is left.
func TestLx4Quote(t *testing.T) {
	draw := draws()
	quoted := func(s string) {
		q := lexer.Quote(s)
		holds(t, q, 0, true, api.Token{Kind: api.TokenString, Text: s, End: ustr.Len(q)})
	}
	quoted("")
	for range 20000 {
		quoted(anyUnits(draw))
	}
	for i := range 1 << 16 {
		quoted(unit(uint16(i)))
		quoted(unit(0) + unit(uint16(i)) + unit('0'))
	}
}

// Spell of s is the name s, or the word, and nothing is left.
func TestLx4Spell(t *testing.T) {
	draw := draws()
	spelt := func(s string) bool {
		q, errno := lexer.Spell(s)
		if (errno == api.OK) != lexer.Named(s) {
			t.Errorf("Spell of %q: error %d", seen(s), errno)
		}
		if errno != api.OK {
			return false
		}
		want := api.Token{Kind: api.TokenName, Text: s, Escaped: q != s, End: ustr.Len(q)}
		if lexer.Reserved(s) {
			want.Kind = api.TokenWord
		}
		holds(t, q, 0, true, want)
		return true
	}
	for _, w := range allWords() {
		spelt(text(t, w))
	}
	names := 0
	for range 20000 {
		if spelt(anyUnits(draw)) {
			names++
		}
	}
	for i := range 1 << 16 {
		spelt(unit(uint16(i)))
		spelt(unit('a') + unit(uint16(i)) + unit('1'))
	}
	if names < 100 {
		t.Errorf("%d names alone", names)
	}
}

// More white space between tokens changes their places alone.
func TestLx4MoreWhite(t *testing.T) {
	draw := draws()
	white := []string{"", " ", "\t", "\x0b\x0c", "\u00a0", "\u1680 \u180e", "\u2003", "\u202f\u205f", "\u3000", "\ufeff", "      "}
	sources(t, func(src string, l []api.Token) {
		var spread string
		at := 0
		want := slices.Clone(l)
		for i, x := range l {
			spread += text(t, white[draw()%len(white)]) + ustr.Slice(src, at, x.Pos)
			// Behind the last token white space may lie within a comment.
			if x.Kind != api.TokenEnd {
				spread += text(t, white[draw()%len(white)])
			}
			want[i].Pos = ustr.Len(spread)
			spread += ustr.Slice(src, x.Pos, x.End)
			want[i].End = ustr.Len(spread)
			at = x.End
		}
		if told, place, errno := lexer.All(spread); !sameAll(told, want) || place != 0 || errno != api.OK {
			t.Errorf("All(%q): %+v, %d, %d; want %+v", seen(spread), told, place, errno, want)
		}
	})
}

// Of tokens with a gap between all that a source says is told: laid out anew they
// are the same, but for places and lines.
func TestLx4LaidOutAnew(t *testing.T) {
	sources(t, func(src string, l []api.Token) {
		var anew string
		for _, x := range l {
			anew += ustr.Slice(src, x.Pos, x.End) + text(t, " ")
		}
		told, _, errno := lexer.All(anew)
		if errno != api.OK || len(told) != len(l) {
			t.Errorf("All(%q): %+v, %d", seen(anew), told, errno)
			return
		}
		for i, x := range told {
			x.Newline, x.Pos, x.End = l[i].Newline, l[i].Pos, l[i].End
			if !same(x, l[i]) {
				t.Errorf("%q: %+v, not %+v", seen(anew), x, l[i])
			}
		}
	})
}

// The examples of the chapter.
func TestExamples(t *testing.T) {
	l, _, _ := lexer.All(text(t, "a+++b"))
	var told []string
	for _, x := range l {
		told = append(told, ustr.Encode(x.Text))
	}
	if !slices.Equal(told, []string{"a", "++", "+", "b", ""}) {
		t.Errorf("%q", told)
	}
	if l, _, _ = lexer.All(text(t, "x /* \n */ y")); len(l) != 3 || !l[1].Newline || l[0].Newline {
		t.Errorf("%+v", l)
	}
	for src, want := range map[string]float64{"0x1F": 31, "1.e3": 1000, ".5": 0.5} {
		holds(t, text(t, src), 0, false, api.Token{Kind: api.TokenNumber, Num: want, End: len(src)})
	}
	refuses(t, text(t, "5.a"), 0, false, 0, api.ErrSyntax)
	holds(t, text(t, `"\x41\u0042\0"`), 0, false, token(t, api.TokenString, "AB\x00", `"\x41\u0042\0"`))
	refuses(t, text(t, `"\1"`), 0, false, 0, api.ErrSyntax)
	holds(t, text(t, `\u0069f`), 0, false, api.Token{Kind: api.TokenWord, Text: text(t, "if"), Escaped: true, End: 7})
}
