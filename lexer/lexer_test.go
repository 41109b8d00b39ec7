package lexer_test

import (
	"math"
	"slices"
	"strings"
	"testing"

	"quill/api"
	"quill/lexer"
	"quill/ustr"
)

// text is the text of UTF-8 that a test has written out; a lone unit is written
// by lone.
func text(t *testing.T, b string) string {
	t.Helper()
	s, place, errno := ustr.Decode(b)
	if errno != api.OK {
		t.Fatalf("Decode(%q): place %d, error %d", b, place, errno)
	}
	return s
}

// unit is a text of one unit.
func unit(u uint16) string { return ustr.Make([]uint16{u}) }

// same tells whether two tokens are alike, numbers to the bit.
func same(a, b api.Token) bool {
	bits := math.Float64bits(a.Num) == math.Float64bits(b.Num)
	a.Num, b.Num = 0, 0
	return bits && a == b
}

// sameAll tells whether tokens are alike.
func sameAll(a, b []api.Token) bool { return slices.EqualFunc(a, b, same) }

// seen is so much of a source as a failed test tells.
func seen(src string) string { return ustr.Encode(ustr.Slice(src, 0, 60)) }

// holds asks for the token of a source at a place.
func holds(t *testing.T, src string, at int, operand bool, want api.Token) {
	t.Helper()
	x, place, errno := lexer.Next(src, at, operand)
	if !same(x, want) || place != 0 || errno != api.OK {
		t.Errorf("Next(%q, %d, %t): %+v, %d, %d; want %+v", seen(src), at, operand, x, place, errno, want)
	}
}

// refuses asks whether a source can't be read from a place on, and where.
func refuses(t *testing.T, src string, at int, operand bool, wantPlace int, wantErrno api.Errno) {
	t.Helper()
	x, place, errno := lexer.Next(src, at, operand)
	if !same(x, api.Token{}) || place != wantPlace || errno != wantErrno {
		t.Errorf("Next(%q, %d, %t): %+v, %d, %d; want %d, %d", seen(src), at, operand, x, place, errno, wantPlace, wantErrno)
	}
}

// token is a token of a kind whose text is b, and that fills the source.
func token(t *testing.T, kind int, b, src string) api.Token {
	t.Helper()
	return api.Token{Kind: kind, Text: text(t, b), End: ustr.Len(text(t, src))}
}

func allMarks() []string {
	return strings.Fields("{ } ( ) [ ] . ; , < > <= >= == != === !== + - * % ++ -- << >> >>> & | ^ ! ~ && || ? : = += -= *= %= <<= >>= >>>= &= |= ^= / /=")
}

func allWords() []string {
	return strings.Fields("break case catch class const continue debugger default delete do else enum export extends false finally for function if implements import in instanceof interface let new null package private protected public return static super switch this throw true try typeof var void while with yield")
}

func TestLx1Marks(t *testing.T) {
	for _, m := range allMarks() {
		want := token(t, api.TokenMark, m, m)
		holds(t, text(t, m), 0, false, want)
		holds(t, text(t, m+" "), 0, false, want)
		holds(t, text(t, m+"a"), 0, false, want)
		if m[0] != '/' {
			holds(t, text(t, m), 0, true, want)
		}
		want.Pos, want.End = 2, want.End+2
		holds(t, text(t, "a "+m), 1, false, want)
	}
}

// A mark has as many units as can be.
func TestLx1LongestMark(t *testing.T) {
	for src, want := range map[string]string{
		"a+++b": "a ++ + b", "a---b": "a -- - b", ">>>=": ">>>=", ">>>>=": ">>> >=", ">>>>>": ">>> >>", ">>>==": ">>>= =", ">>==": ">>= =", "<<<=": "<< <=", "<<==": "<<= =", "====": "=== =", "=====": "=== ==", "!===": "!== =", "!!==": "! !==",
		"&&&": "&& &", "&&=": "&& =", "&==": "&= =", "|||": "|| |", "||=": "|| =", "^^": "^ ^", "**": "* *", "**=": "* *=", "%%=": "% %=", "+=+": "+= +", "+++=": "++ +=", "=>": "= >", "?.": "? .", "??": "? ?", "...": ". . .", "<!--": "< ! --", "-->": "-- >", "~~": "~ ~", "~=": "~ =", "a/b/c": "a / b / c", "a/=/": "a /= /", "{}": "{ }", "?:": "? :", ".a": ". a", "..a": ". . a", ",;": ", ;",
	} {
		l, _, errno := lexer.All(text(t, src))
		var told []string
		for _, x := range l[:max(len(l)-1, 0)] {
			told = append(told, ustr.Encode(x.Text))
		}
		if strings.Join(told, " ") != want || errno != api.OK {
			t.Errorf("%s: %q, error %d", src, told, errno)
		}
	}
}

func TestLx1Words(t *testing.T) {
	for _, w := range allWords() {
		holds(t, text(t, w), 0, true, token(t, api.TokenWord, w, w))
		for _, name := range []string{w + "a", w + "1", w + "$", "a" + w, "_" + w, strings.ToUpper(w), strings.ToUpper(w[:1]) + w[1:], w[:len(w)-1] + "é"} {
			holds(t, text(t, name), 0, false, token(t, api.TokenName, name, name))
		}
	}
	// Words of other languages, and such as other editions have.
	for _, name := range []string{"async", "await", "of", "get", "set", "undefined", "NaN", "Infinity", "eval", "arguments", "abstract", "boolean", "byte", "char", "double", "final", "float", "goto", "int", "long", "native", "short", "synchronized", "throws", "transient", "volatile", "constructor", "i", "d", "__proto__"} {
		holds(t, text(t, name), 0, false, token(t, api.TokenName, name, name))
	}
}

func TestLx1Names(t *testing.T) {
	for _, name := range []string{"a", "z", "A", "Z", "$", "_", "$$", "__", "a1", "$0", "_9", "é", "aé", "漢字", "😀", "a😀b", "\u0080", "\u0085x", "\u200b\u200c\u200d", "\ufffe", "\uffff"} {
		holds(t, text(t, name), 0, true, token(t, api.TokenName, name, name))
		holds(t, text(t, name+" b"), 0, false, token(t, api.TokenName, name, name))
		holds(t, text(t, name+".b"), 0, false, token(t, api.TokenName, name, name))
		holds(t, text(t, name+"\"b\""), 0, false, token(t, api.TokenName, name, name))
		holds(t, text(t, name+"\u00a0b"), 0, false, token(t, api.TokenName, name, name))
	}
	for _, lone := range []string{unit(0xD800), unit(0xDFFF), unit(0xDC00) + unit(0xD800)} {
		holds(t, lone, 0, false, api.Token{Kind: api.TokenName, Text: lone, End: ustr.Len(lone)})
	}
}

func TestLx1EscapedNames(t *testing.T) {
	for src, name := range map[string]string{
		`\u0061`: "a", `\u0061b`: "ab", `a\u0062`: "ab", `a\u0062c`: "abc", `\u0061\u0062`: "ab", `\u0024`: "$", `\u005F`: "_", `\u005f`: "_", `a\u0031`: "a1", `a1\u0030`: "a10", `\u00e9`: "é", `\u00E9`: "é", `\uD83D\uDE00`: "😀", `\u006f\u0066`: "of", `\uFFfF`: "\uffff", `\u0080`: "\u0080", `\u00690`: "i0", `\u200C`: "\u200c", `a\u0039`: "a9",
	} {
		want := token(t, api.TokenName, name, src)
		want.Escaped = true
		holds(t, text(t, src), 0, true, want)
		holds(t, text(t, src+" +"), 0, false, want)
		want.Pos, want.End = 1, want.End+1
		holds(t, text(t, " "+src), 0, false, want)
	}
	for src, word := range map[string]string{`\u0069f`: "if", `i\u0066`: "if", `\u0069\u0066`: "if", `v\u0061r`: "var", `yiel\u0064`: "yield", `nu\u006Cl`: "null"} {
		want := token(t, api.TokenWord, word, src)
		want.Escaped = true
		holds(t, text(t, src), 0, false, want)
	}
	half := unit(0xD800)
	holds(t, text(t, `\uD800`), 0, false, api.Token{Kind: api.TokenName, Text: half, Escaped: true, End: 6})
}

func TestLx1WrongNames(t *testing.T) {
	for _, src := range []string{
		`\`, `\a`, `\x61`, `\u`, `\u0`, `\u006`, `\u006g`, `\u00g1`, `\u{61}`, `\U0061`, `\\u0061`, `\u 0061`, `\"`, "\\\n", `\u0031`, `\u0030a`, `\u0039`, `\u0020`, `\u0000`, `\u005C`, `\u005Cu0061`, `\u002E`, `\u00A0`, `\u2028`, `\u000A`, `\uFEFF`, `\u2003`, `\u180e`, `\u007F`, `\u0023`, `\u00`, `\u００61`,
	} {
		refuses(t, text(t, src), 0, false, 0, api.ErrSyntax)
		refuses(t, text(t, "  "+src), 0, true, 2, api.ErrSyntax)
		refuses(t, text(t, "  "+src), 2, true, 2, api.ErrSyntax)
		// Within a name it is the name's beginning that is told.
		if !strings.HasPrefix(src, `\u003`) {
			refuses(t, text(t, "abc"+src), 0, false, 0, api.ErrSyntax)
			refuses(t, text(t, " abc"+src+" d"), 0, true, 1, api.ErrSyntax)
			refuses(t, text(t, `a\u0062`+src), 0, false, 0, api.ErrSyntax)
		}
	}
}

func TestLx1WrongUnits(t *testing.T) {
	for _, u := range []uint16{'#', '@', '`', 0x00, 0x01, 0x08, 0x0E, 0x1F, 0x7F} {
		refuses(t, unit(u), 0, false, 0, api.ErrSyntax)
		refuses(t, unit(u), 0, true, 0, api.ErrSyntax)
		refuses(t, text(t, "a ")+unit(u)+unit('b'), 1, false, 2, api.ErrSyntax)
		// What stands ahead of it is a token yet.
		holds(t, text(t, "a")+unit(u), 0, false, token(t, api.TokenName, "a", "a"))
	}
}

// All units, each alone: what a unit begins hangs on layer 1, on marks and digits.
func TestLx1AllUnits(t *testing.T) {
	for i := range 1 << 16 {
		u := uint16(i)
		src := unit(u)
		want := api.Token{Text: src, End: 1}
		switch {
		case ustr.Start(u):
			want.Kind = api.TokenName
		case ustr.Space(u), ustr.Ends(u):
			want = api.Token{Kind: api.TokenEnd, Newline: ustr.Ends(u), Pos: 1, End: 1}
		case '0' <= u && u <= '9':
			want = api.Token{Kind: api.TokenNumber, Num: float64(u - '0'), End: 1}
		case u < 0x80 && slices.Contains(allMarks(), string(rune(u))):
			want.Kind = api.TokenMark
		default:
			refuses(t, src, 0, false, 0, api.ErrSyntax)
			continue
		}
		holds(t, src, 0, false, want)
	}
}

func TestLx1Places(t *testing.T) {
	src := text(t, "ab 12 'c'")
	for _, at := range []int{math.MinInt, -2, -1, 10, 11, 19, math.MaxInt} {
		refuses(t, src, at, false, 0, api.ErrArg)
		refuses(t, src, at, true, 0, api.ErrArg)
		refuses(t, text(t, "#########"), at, true, 0, api.ErrArg)
	}
	refuses(t, "", 1, false, 0, api.ErrArg)
	refuses(t, "", -1, false, 0, api.ErrArg)
	holds(t, "", 0, false, api.Token{Kind: api.TokenEnd})
	holds(t, "", 0, true, api.Token{Kind: api.TokenEnd})
	ab, b := text(t, "ab"), text(t, "b")
	for at, want := range []api.Token{
		{Kind: api.TokenName, Text: ab, End: 2},
		{Kind: api.TokenName, Text: b, Pos: 1, End: 2},
		{Kind: api.TokenNumber, Num: 12, Pos: 3, End: 5},
		{Kind: api.TokenNumber, Num: 12, Pos: 3, End: 5},
		{Kind: api.TokenNumber, Num: 2, Pos: 4, End: 5},
		{Kind: api.TokenString, Text: text(t, "c"), Pos: 6, End: 9},
		{Kind: api.TokenString, Text: text(t, "c"), Pos: 6, End: 9},
		{Kind: api.TokenName, Text: text(t, "c"), Pos: 7, End: 8},
	} {
		holds(t, src, at, false, want)
		holds(t, src, at, true, want)
	}
	refuses(t, src, 8, false, 8, api.ErrSyntax)
	holds(t, src, 9, false, api.Token{Kind: api.TokenEnd, Pos: 9, End: 9})
}

// Places are counted in units, so a pair has two.
func TestLx1PlacesOfPairs(t *testing.T) {
	src := text(t, "'😀' 😀 5")
	holds(t, src, 0, false, api.Token{Kind: api.TokenString, Text: text(t, "😀"), End: 4})
	holds(t, src, 4, false, api.Token{Kind: api.TokenName, Text: text(t, "😀"), Pos: 5, End: 7})
	holds(t, src, 7, false, api.Token{Kind: api.TokenNumber, Num: 5, Pos: 8, End: 9})
	holds(t, src, 6, false, api.Token{Kind: api.TokenName, Text: unit(0xDE00), Pos: 6, End: 7})
}

// As an operand `/` begins a regular expression, and that is none of the language.
func TestLx1Operand(t *testing.T) {
	for src, place := range map[string]int{"/": 0, "/=": 0, "/a/": 0, "/=a/g": 0, " /a/": 1, "/**/ /": 5, "//\n/x": 3, "/*/**//": 6, "/[/]/": 0} {
		refuses(t, text(t, src), 0, true, place, api.ErrSyntax)
		x, _, errno := lexer.Next(text(t, src), 0, false)
		if x.Kind != api.TokenMark || x.Pos != place || errno != api.OK {
			t.Errorf("%s: %+v, error %d", src, x, errno)
		}
	}
	// Comments are none.
	holds(t, text(t, "//"), 0, true, api.Token{Kind: api.TokenEnd, Pos: 2, End: 2})
	holds(t, text(t, "/**/a"), 0, true, api.Token{Kind: api.TokenName, Text: text(t, "a"), Pos: 4, End: 5})
	refuses(t, text(t, " /*"), 0, true, 1, api.ErrSyntax)
}

func TestLx1Comments(t *testing.T) {
	for _, b := range []string{
		"/**/", "/***/", "/* */", "/*/*/", "/* / * */", "/* // */", "/* '\" \\ # */", "/* é😀 */", "//\n", "// x\n", "///\n", "// /*\n", "// \\\n", "//*/\n", "// # ' \"\n", "//\r", "//\u2028", "//\u2029", "//\r\n", "/*\n*/", "/*\n\n*/", "/***\r***/", "/*\u2028*/", "/*\u2029*/", "/*\r\n*/", "/**//**/", "/**/ /**/", "//\n//\n", "/**///\n", "//\n/**/", "/*//*/",
	} {
		src := text(t, b)
		want := api.Token{Kind: api.TokenName, Text: text(t, "x"), Pos: ustr.Len(src), End: ustr.Len(src) + 1}
		want.Newline = strings.ContainsAny(b, "\n\r\u2028\u2029")
		holds(t, src+text(t, "x"), 0, false, want)
		holds(t, src+text(t, "x"), 0, true, want)
		end := api.Token{Kind: api.TokenEnd, Newline: want.Newline, Pos: ustr.Len(src), End: ustr.Len(src)}
		holds(t, src, 0, true, end)
		want.Pos, want.End = want.Pos+2, want.End+2
		holds(t, text(t, "a ")+src+text(t, "x"), 1, false, want)
	}
	// The first form ends with the source, too; the line's end is no part of it.
	holds(t, text(t, "// a"), 0, false, api.Token{Kind: api.TokenEnd, Pos: 4, End: 4})
	holds(t, text(t, "//*\na"), 0, false, api.Token{Kind: api.TokenName, Text: text(t, "a"), Newline: true, Pos: 4, End: 5})
	for src, place := range map[string]int{"/*": 0, "/*/": 0, "/* x": 0, "/* *": 0, "/**": 0, " /* * /": 1, "/**/ /* ": 5, "/* */ \n/*/": 7, "//\n/*": 3, "/*\n": 0, "/* \\*\\/": 0} {
		refuses(t, text(t, src), 0, false, place, api.ErrSyntax)
		refuses(t, text(t, src), 0, true, place, api.ErrSyntax)
	}
}

func TestLx1White(t *testing.T) {
	a := text(t, "a")
	for i := range 1 << 16 {
		u := uint16(i)
		if !ustr.Space(u) && !ustr.Ends(u) {
			continue
		}
		want := api.Token{Kind: api.TokenName, Text: a, Newline: ustr.Ends(u), Pos: 1, End: 2}
		holds(t, unit(u)+a, 0, true, want)
		holds(t, unit(u)+a+unit(u), 0, false, want)
		holds(t, unit(u)+a, 1, false, api.Token{Kind: api.TokenName, Text: a, Pos: 1, End: 2})
		want.Pos, want.End = 3, 4
		holds(t, text(t, " ")+unit(u)+text(t, " ")+a, 0, false, want)
	}
}

// A line that ended ahead of `at` counts not.
func TestLx1Newline(t *testing.T) {
	src := text(t, "a\nb /* \n */ c // x\nd\n\n e")
	var ended []bool
	l, _, errno := lexer.All(src)
	for _, x := range l {
		ended = append(ended, x.Newline)
	}
	if !slices.Equal(ended, []bool{false, true, true, true, true, false}) || errno != api.OK {
		t.Errorf("%v, error %d", ended, errno)
	}
	for at, want := range map[int]bool{0: false, 1: true, 2: false, 3: true, 4: true, 11: false, 12: false, 13: true, 18: true, 19: false, 20: true, 21: true, 22: false, 23: false, 24: false} {
		if x, _, errno := lexer.Next(src, at, false); x.Newline != want || errno != api.OK {
			t.Errorf("at %d: %+v, error %d", at, x, errno)
		}
	}
	holds(t, text(t, "a \n"), 1, false, api.Token{Kind: api.TokenEnd, Newline: true, Pos: 3, End: 3})
	holds(t, text(t, "a  "), 1, false, api.Token{Kind: api.TokenEnd, Pos: 3, End: 3})
}

// The last byte of an odd number counts not.
func TestLx1OddBytes(t *testing.T) {
	for _, b := range []string{"", "a", "a1", "1", "1.", "0", "'a'", "'a", "+", "+ ", "//", "/*", "/**/", `\u0061`, `\u006`, "1e", "0x", "0x1", "/"} {
		for _, half := range []string{"\x00", "0", "a", "'", "+", "/", "\n", "\xFF"} {
			src := text(t, b)
			for at := range ustr.Len(src) + 2 {
				for _, operand := range []bool{false, true} {
					x, place, errno := lexer.Next(src, at, operand)
					y, placeOdd, errnoOdd := lexer.Next(src+half, at, operand)
					if !same(x, y) || place != placeOdd || errno != errnoOdd {
						t.Errorf("Next(%q and %q, %d): %+v, %d, %d", b, half, at, y, placeOdd, errnoOdd)
					}
				}
			}
			l, place, errno := lexer.All(src)
			odd, placeOdd, errnoOdd := lexer.All(src + half)
			if !sameAll(l, odd) || place != placeOdd || errno != errnoOdd {
				t.Errorf("All(%q and %q): %+v, %d, %d", b, half, odd, placeOdd, errnoOdd)
			}
		}
	}
}
