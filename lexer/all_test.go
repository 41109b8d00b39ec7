package lexer_test

import (
	"testing"

	"quill/api"
	"quill/lexer"
	"quill/ustr"
)

func TestLx2Tokens(t *testing.T) {
	src := text(t, "var a = 'x' /* \n */ + .5;\nif")
	l, place, errno := lexer.All(src)
	want := []api.Token{
		{Kind: api.TokenWord, Text: text(t, "var"), Pos: 0, End: 3},
		{Kind: api.TokenName, Text: text(t, "a"), Pos: 4, End: 5},
		{Kind: api.TokenMark, Text: text(t, "="), Pos: 6, End: 7},
		{Kind: api.TokenString, Text: text(t, "x"), Pos: 8, End: 11},
		{Kind: api.TokenMark, Text: text(t, "+"), Newline: true, Pos: 20, End: 21},
		{Kind: api.TokenNumber, Num: 0.5, Pos: 22, End: 24},
		{Kind: api.TokenMark, Text: text(t, ";"), Pos: 24, End: 25},
		{Kind: api.TokenWord, Text: text(t, "if"), Newline: true, Pos: 26, End: 28},
		{Kind: api.TokenEnd, Pos: 28, End: 28},
	}
	if !sameAll(l, want) || place != 0 || errno != api.OK {
		t.Errorf("%+v, %d, %d", l, place, errno)
	}
}

// A source without tokens has its TokenEnd.
func TestLx2Nothing(t *testing.T) {
	for src, newline := range map[string]bool{"": false, " ": false, "\n": true, "// a": false, "// a\n": true, "/**/": false, "/*\n*/": true, "\ufeff": false, "\u2029\t": true} {
		s := text(t, src)
		l, place, errno := lexer.All(s)
		if want := (api.Token{Kind: api.TokenEnd, Newline: newline, Pos: ustr.Len(s), End: ustr.Len(s)}); len(l) != 1 || !same(l[0], want) || place != 0 || errno != api.OK {
			t.Errorf("All(%q): %+v, %d, %d", src, l, place, errno)
		}
	}
}

// What can't be read is told with its place, and no tokens.
func TestLx2Refused(t *testing.T) {
	for src, want := range map[string]int{
		"#": 0, "a #": 2, "a\n\n#b": 3, "a + 'b": 4, "var x = 010;": 8, "a /* b": 2, "a // b\n /*": 8, `a b\u0020`: 2, `f(\x)`: 2, "1 2 3in 4": 4, "'a' \"b": 4, "'a\n'": 0, "a b c @ # d": 6, "😀 #": 3, "x = '\\08'": 4, "5.a": 0, "\x00": 0, "a.0x": 1, "/a/ '": 4, "a\\": 0,
	} {
		l, place, errno := lexer.All(text(t, src))
		if len(l) != 0 || place != want || errno != api.ErrSyntax {
			t.Errorf("All(%q): %+v, %d, %d; want %d", src, l, place, errno, want)
		}
	}
}

// None is asked as operand: `/` is a mark wherever it stands.
func TestLx2NoOperands(t *testing.T) {
	for src, want := range map[string]int{"/": 2, "/=": 2, "a = /b/": 6, "/a/g": 5, "(/=/)": 5, "/ /": 3, "a\n/b/c": 6} {
		l, place, errno := lexer.All(text(t, src))
		if len(l) != want || place != 0 || errno != api.OK {
			t.Errorf("All(%q): %+v, %d, %d", src, l, place, errno)
		}
	}
	if _, place, errno := lexer.All(text(t, "a = /'/")); place != 5 || errno != api.ErrSyntax {
		t.Errorf("%d, %d", place, errno)
	}
}

// Each is told from the End of the one ahead.
func TestLx2FromEndToEnd(t *testing.T) {
	draw := draws()
	for range 500 {
		src := drawn(t, draw, pieces(), draw()%40)
		l, _, errno := lexer.All(src)
		if errno != api.OK {
			continue
		}
		at := 0
		for i, x := range l {
			holds(t, src, at, false, x)
			if (x.Kind == api.TokenEnd) != (i == len(l)-1) {
				t.Errorf("%q: a TokenEnd at %d of %d", seen(src), i, len(l))
			}
			at = x.End
		}
		if at != ustr.Len(src) {
			t.Errorf("%q: the end is at %d", seen(src), at)
		}
	}
}
