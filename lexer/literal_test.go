package lexer_test

import (
	"math"
	"strconv"
	"strings"
	"testing"

	"quill/api"
	"quill/lexer"
	"quill/ustr"
)

func TestLx1Numbers(t *testing.T) {
	for src, want := range map[string]float64{
		"0": 0, "1": 1, "9": 9, "10": 10, "123456789": 123456789, "0.": 0, "5.": 5, ".5": 0.5, ".0": 0, "0.5": 0.5, "1.5": 1.5, "0e0": 0, "0e5": 0, "0E5": 0, "0.e5": 0, "0.0e-5": 0, "1.e3": 1000, "1e3": 1000, "1E3": 1000, "1e+3": 1000, "1E+3": 1000, "1e-3": 0.001, ".5e1": 5, ".5E-1": 0.05, "1.25e2": 125, "1e010": 1e10, "1e00": 1, "1.010": 1.01, ".010": 0.01,
		"1e999": math.Inf(1), "1e-999": 0, "0.1": 0.1, "9007199254740993": 9007199254740992, "1.7976931348623157e308": math.MaxFloat64, "5e-324": 5e-324, "0.30000000000000004": 0.30000000000000004,
		"0x0": 0, "0X0": 0, "0x1F": 31, "0X1f": 31, "0xabcdef": 0xabcdef, "0xABCDEF": 0xABCDEF, "0x00ff": 255, "0x9": 9, "0x1e3": 0x1e3, "0xe": 14, "0x20000000000001": 1 << 53, "0x0123456789": 0x0123456789,
	} {
		number := api.Token{Kind: api.TokenNumber, Num: want, End: len(src)}
		holds(t, text(t, src), 0, true, number)
		// As long as can be; what comes then belongs not to it.
		for _, behind := range []string{" ", "+1", "-1", ";", ")", "\n", "\u00a0a", "\u2028", "/1", "/*1*/a", "//a", "\"a\"", "'", "#", "@", "[", "\ufeffa", "=", "\x00"} {
			holds(t, text(t, src+behind), 0, false, number)
		}
		for _, behind := range []string{"_", "$", "é", "g", "z", "x", "\\", `\u0061`, `\u0031`, "😀", "\u200c", "n", "\ufffe"} {
			refuses(t, text(t, src+behind), 0, false, 0, api.ErrSyntax)
			refuses(t, text(t, " "+src+behind), 0, true, 1, api.ErrSyntax)
		}
		number.Pos, number.End = 3, number.End+3
		holds(t, text(t, "a\n "+src), 2, true, number)
	}
}

func TestLx1WrongNumbers(t *testing.T) {
	for _, src := range []string{
		"00", "01", "07", "08", "09", "010", "00.5", "01.5", "08.5", "09e1", "00x1", "000", "0123456789", "0_1", "1_0", "5.a", "3in", "0x", "0X", "0xg", "0x.1", "0x-1", "0x 1", "0x1g", "0x1x", "0xx1", "0b1", "0o7", "0B1", "0O7", "1e", "1E", "1e+", "1e-", "1e 5", "1e+ 5", "1ee5", "1e5e", "1e5e5", "1ex", "1e+x", ".5e", ".5e+", ".5a", "5.e", "5.e+", "5.e-a", "0e", "1.5f", "1n", "1a.5", `1\u0031`, `1\`, "1é", "1😀", "5._", "5.$", "0.0a", "12z",
	} {
		refuses(t, text(t, src), 0, false, 0, api.ErrSyntax)
		refuses(t, text(t, src), 0, true, 0, api.ErrSyntax)
		refuses(t, text(t, "a +"+src+" b"), 3, false, 3, api.ErrSyntax)
	}
}

// Where a number ends, another token may begin at once.
func TestLx1BehindNumbers(t *testing.T) {
	for src, want := range map[string]string{
		"1..a": "1 . a", "1...5": "1 . 0.5", "1.5.5": "1.5 0.5", "0.0.0": "0 0", "1.2.3.4": "1.2 0.3 0.4", "0x1.5": "1 0.5", "0x1.a": "1 . a", "0xe+1": "14 + 1", "1e5.5": "100000 0.5", "1e5.a": "100000 . a", "1e+5+1": "100000 + 1", "1-1": "1 - 1", "-1": "- 1", "+.5": "+ 0.5", ".5.5": "0.5 0.5", "..5": ". 0.5", "a.5": "a 0.5", "a.b.5": "a . b 0.5", "1.+1.": "1 + 1", "1/2": "1 / 2", "[1,2]": "[ 1 , 2 ]", "0.e1.e": "0 . e", "1 .a": "1 . a", "5\n.a": "5 . a",
	} {
		l, _, errno := lexer.All(text(t, src))
		var told []string
		for _, x := range l[:max(len(l)-1, 0)] {
			if x.Kind == api.TokenNumber {
				told = append(told, strconv.FormatFloat(x.Num, 'f', -1, 64))
			} else {
				told = append(told, ustr.Encode(x.Text))
			}
		}
		if strings.Join(told, " ") != want || errno != api.OK {
			t.Errorf("%s: %q, error %d", src, told, errno)
		}
	}
}

// Long numbers are numbers as short ones are.
func TestLx1LongNumbers(t *testing.T) {
	const many = 1 << 18
	nines, noughts := strings.Repeat("9", many), strings.Repeat("0", many)
	for src, want := range map[string]float64{
		nines: math.Inf(1), "0." + noughts + "1": 0, "1e" + noughts + "1": 10, "1." + noughts: 1, "0x" + noughts + "1": 1, "0x" + nines: math.Inf(1), "1e-" + nines: 0, "0." + nines: 1,
	} {
		holds(t, text(t, src), 0, false, api.Token{Kind: api.TokenNumber, Num: want, End: len(src)})
		refuses(t, text(t, src+"_"), 0, false, 0, api.ErrSyntax)
	}
	refuses(t, text(t, noughts), 0, false, 0, api.ErrSyntax)
}

// stringOf asks for a string between both kinds of marks.
func stringOf(t *testing.T, within, want string) {
	t.Helper()
	for _, quote := range []string{"'", `"`} {
		mark := text(t, quote)
		src := mark + within + mark
		x := api.Token{Kind: api.TokenString, Text: want, End: ustr.Len(src)}
		holds(t, src, 0, true, x)
		holds(t, src+mark, 0, false, x)
		holds(t, src+text(t, "a"), 0, false, x)
		x.Pos, x.End = 2, x.End+2
		holds(t, text(t, "x ")+src, 1, false, x)
		// Without its end it is none.
		refuses(t, text(t, "x ")+mark+within, 1, false, 2, api.ErrSyntax)
	}
}

// noString asks whether nothing with this between its marks is a string.
func noString(t *testing.T, within string) {
	t.Helper()
	for _, quote := range []string{"'", `"`} {
		mark := text(t, quote)
		refuses(t, mark+within+mark, 0, true, 0, api.ErrSyntax)
		refuses(t, text(t, "x ")+mark+text(t, "é")+within+mark, 1, false, 2, api.ErrSyntax)
	}
}

func TestLx1Strings(t *testing.T) {
	for _, s := range []string{"", "a", "abc", " ", "  a  ", "/*", "//", "/* */", "é😀", "\t\v\f", "\x00", "\x7f", "#@`", "\u00a0\ufeff", "\u0085", "if", "123", "${a}"} {
		stringOf(t, text(t, s), text(t, s))
	}
	stringOf(t, unit(0xD800), unit(0xD800))
	stringOf(t, unit(0xDC00)+unit(0xD800), unit(0xDC00)+unit(0xD800))
	// Within one kind of marks the other one is a unit like others.
	holds(t, text(t, `"it's"`), 0, false, token(t, api.TokenString, "it's", `"it's"`))
	holds(t, text(t, `'"'`), 0, false, token(t, api.TokenString, `"`, `'"'`))
	holds(t, text(t, `"''"`), 0, false, token(t, api.TokenString, "''", `"''"`))
	for _, b := range []string{"\n", "\r", "\u2028", "\u2029", "a\n", "\r\n"} {
		noString(t, text(t, b))
	}
	for _, src := range []string{"'", `"`, "'a", `"a`, `'a"`, `"a'`, `'\'`, `"\"`, `'\`, "'\n'", "'a\\\n", "'\\\\\\'"} {
		refuses(t, text(t, src), 0, false, 0, api.ErrSyntax)
		refuses(t, text(t, " "+src), 0, true, 1, api.ErrSyntax)
	}
}

func TestLx1Escapes(t *testing.T) {
	for escape, want := range map[string]string{
		`\b`: "\x08", `\t`: "\x09", `\n`: "\x0a", `\v`: "\x0b", `\f`: "\x0c", `\r`: "\x0d", `\0`: "\x00", `\'`: "'", `\"`: `"`, `\\`: `\`, `\a`: "a", `\B`: "B", `\N`: "N", `\X`: "X", `\U`: "U", `\X41`: "X41", `\U0041`: "U0041", `\ `: " ", `\/`: "/", `\.`: ".", `\$`: "$", `\é`: "é", `\😀`: "😀", `\٣`: "٣", "\\\x00": "\x00", "\\\t": "\t", `\-`: "-", `\{`: "{",
		`\x41`: "A", `\x00`: "\x00", `\xff`: "ÿ", `\xFF`: "ÿ", `\xaB`: "«", `\x411`: "A1", `\x41g`: "Ag", `\x99`: "\u0099",
		`\u0041`: "A", `\u00e9`: "é", `\u00E9`: "é", `\u0000`: "\x00", `\uFfFf`: "\uffff", `\uD83D\uDE00`: "😀", `\u00411`: "A1", `\u0041g`: "Ag", `\u000A`: "\n", `\u2028`: "\u2028", `\u0022`: `"`, `\u005C`: `\`, `\u1234`: "\u1234", `\uabcd`: "\uabcd",
		`\0a`: "\x00a", `\0\0`: "\x00\x00", `\0 1`: "\x00 1", `\0x1`: "\x00x1", `\0٣`: "\x00٣", `\0\x30`: "\x000", `\0e`: "\x00e", `\0\u0030`: "\x000", "\\0\\\n": "\x00",
		"\\\n": "", "\\\r": "", "\\\r\n": "", "\\\u2028": "", "\\\u2029": "", "a\\\nb": "ab", "a\\\r\nb": "ab", "\\\n\\\n": "", "\\\r\\\n": "", "\\\r\n1": "1",
		`a\nb\tc`: "a\nb\tc", `\\n`: `\n`, `\\\\`: `\\`, `\x41\u0042\0`: "AB\x00", `\u000a\x0d`: "\n\r",
	} {
		stringOf(t, text(t, escape), text(t, want))
		stringOf(t, text(t, "1"+escape+"z"), text(t, "1"+want+"z"))
	}
	stringOf(t, text(t, `\uD800`), unit(0xD800))
	stringOf(t, text(t, `\`)+unit(0xDC00), unit(0xDC00))
}

func TestLx1WrongEscapes(t *testing.T) {
	for _, escape := range []string{
		`\1`, `\2`, `\3`, `\4`, `\5`, `\6`, `\7`, `\8`, `\9`, `\00`, `\01`, `\07`, `\08`, `\09`, `\10`, `\000`, `\0000`, `\400`, `\x`, `\x4`, `\x4g`, `\xg4`, `\x 41`, `\x-1`, `\u`, `\u0`, `\u00`, `\u004`, `\u004g`, `\ug041`, `\u{41}`, `\u 0041`, `\u+041`, `\u{1F600}`, "\\\n\n", "\\\n\r", "\\\n\r\n", "\\\r\r", "\\\u2028\n", "\\\u2028\u2029", "\\\r\n\n", `\u００41`, `\x４1`, "\\x4\n", "\\u004\n",
	} {
		noString(t, text(t, escape))
		noString(t, text(t, `\n`+escape+"z"))
	}
}

// All units behind a `\`, each alone.
func TestLx1AllEscapes(t *testing.T) {
	said := map[uint16]uint16{'b': 8, 't': 9, 'n': 10, 'v': 11, 'f': 12, 'r': 13, '0': 0}
	a, mark := text(t, "a"), text(t, "'")
	for i := range 1 << 16 {
		u := uint16(i)
		src := mark + a + text(t, `\`) + unit(u) + a + mark
		want, ok := said[u]
		switch {
		case ustr.Ends(u):
			holds(t, src, 0, true, api.Token{Kind: api.TokenString, Text: a + a, End: 6})
		case ok:
			holds(t, src, 0, true, api.Token{Kind: api.TokenString, Text: a + unit(want) + a, End: 6})
		case '1' <= u && u <= '9' || u == 'x' || u == 'u':
			refuses(t, src, 0, true, 0, api.ErrSyntax)
		default:
			holds(t, src, 0, true, api.Token{Kind: api.TokenString, Text: a + unit(u) + a, End: 6})
		}
	}
}

// All units of two and of four digits, in capitals and in small letters.
func TestLx1AllDigits(t *testing.T) {
	mark, zero := text(t, `"`), func(n, count int) string {
		s := strconv.FormatInt(int64(n), 16)
		return strings.Repeat("0", count-len(s)) + s
	}
	for i := range 1 << 16 {
		for _, digits := range []string{zero(i, 4), strings.ToUpper(zero(i, 4))} {
			holds(t, mark+text(t, `\u`+digits)+mark, 0, true, api.Token{Kind: api.TokenString, Text: unit(uint16(i)), End: 8})
			name := text(t, `a\u`+digits)
			if ustr.Part(uint16(i)) {
				holds(t, name, 0, true, api.Token{Kind: api.TokenName, Text: text(t, "a") + unit(uint16(i)), Escaped: true, End: 7})
			} else {
				refuses(t, name, 0, true, 0, api.ErrSyntax)
			}
			name = text(t, `\u`+digits)
			if ustr.Start(uint16(i)) {
				holds(t, name, 0, true, api.Token{Kind: api.TokenName, Text: unit(uint16(i)), Escaped: true, End: 6})
			} else {
				refuses(t, name, 0, true, 0, api.ErrSyntax)
			}
		}
	}
	for i := range 1 << 8 {
		for _, digits := range []string{zero(i, 2), strings.ToUpper(zero(i, 2))} {
			holds(t, mark+text(t, `\x`+digits)+mark, 0, true, api.Token{Kind: api.TokenString, Text: unit(uint16(i)), End: 6})
		}
	}
}
