package lexer_test

import (
	"slices"
	"strings"
	"testing"

	"quill/api"
	"quill/lexer"
	"quill/ustr"
)

func TestLx3Reserved(t *testing.T) {
	if len(allWords()) != 45 {
		t.Fatalf("%d words", len(allWords()))
	}
	for _, w := range allWords() {
		s := text(t, w)
		if !lexer.Reserved(s) || !lexer.Reserved(s+"\x00") || !lexer.Reserved(s+"a") {
			t.Errorf("%s is not reserved", w)
		}
		for _, other := range []string{w + "s", "s" + w, w[1:] + w[:1], strings.ToUpper(w), strings.ToUpper(w[:1]) + w[1:], " " + w, w + " ", w + "\x00", w + w, w[:len(w)-1] + `\u00` + "61"} {
			if lexer.Reserved(text(t, other)) {
				t.Errorf("%q is reserved", other)
			}
		}
		// Its bytes are no text of it; nor are units with its letters in their lower or higher half.
		if lexer.Reserved(w) {
			t.Errorf("the bytes %q are reserved", w)
		}
		high := ustr.Units(s)
		for i := range high {
			high[i] |= 0x100
		}
		if lexer.Reserved(ustr.Make(high)) {
			t.Errorf("%s with other units is reserved", w)
		}
	}
	for _, b := range []string{"", "a", "async", "await", "of", "get", "set", "undefined", "NaN", "Infinity", "eval", "arguments", "abstract", "boolean", "byte", "char", "double", "final", "float", "goto", "int", "long", "native", "short", "synchronized", "throws", "transient", "volatile", "{", "+", "1", "é", "😀", "then", "elif", "i", "f"} {
		if lexer.Reserved(text(t, b)) {
			t.Errorf("%q is reserved", b)
		}
	}
	if lexer.Reserved("\x00") || lexer.Reserved(unit(0xD800)) {
		t.Error("half a unit, half a pair")
	}
}

// All texts of up to four small letters, but one of them held fixed: none but
// the words' own.
func TestLx3ReservedShort(t *testing.T) {
	words := allWords()
	const letters = "abcdefghijklmnopqrstuvwxyz"
	for _, a := range letters {
		for _, b := range letters {
			for _, c := range []string{"", "a", "e", "l", "n", "o", "r", "s", "t", "w"} {
				for _, d := range []string{"", "d", "e", "h", "l", "m", "n", "s"} {
					s := string(a) + string(b) + c + d
					if lexer.Reserved(ustr.Wide(s)) != slices.Contains(words, s) {
						t.Errorf("%q", s)
					}
				}
			}
		}
	}
}

func TestLx3Named(t *testing.T) {
	a := unit('a')
	for i := range 1 << 16 {
		u := uint16(i)
		if s := unit(u); lexer.Named(s) != ustr.Start(u) || lexer.Named(s+"a") != ustr.Start(u) {
			t.Errorf("%04X", u)
		}
		if s := unit(u) + a; lexer.Named(s) != ustr.Start(u) {
			t.Errorf("%04X, a", u)
		}
		if s := a + unit(u); lexer.Named(s) != ustr.Part(u) {
			t.Errorf("a, %04X", u)
		}
		if s := a + unit(u) + a; lexer.Named(s) != ustr.Part(u) {
			t.Errorf("a, %04X, a", u)
		}
	}
	for _, b := range []string{"a", "$", "_", "a1", "if", "yield", "é", "😀", "a😀1", "$0"} {
		if s := text(t, b); !lexer.Named(s) || !lexer.Named(s+" ") {
			t.Errorf("%q is no name", b)
		}
	}
	for _, b := range []string{"", " ", "1", "1a", "a b", " a", "a ", "a-b", "a.b", `\u0061`, `a\`, "a\n", "'a'", "a\x00", "\u2028", "a\ufeff", "٣ "} {
		if lexer.Named(text(t, b)) {
			t.Errorf("%q is a name", b)
		}
	}
	if lexer.Named("a") || lexer.Named("\x00") {
		t.Error("half a unit is a name")
	}
}

func TestLx3Quote(t *testing.T) {
	const digits = "0123456789ABCDEF"
	for i := range 1 << 16 {
		u := uint16(i)
		var want string
		switch {
		case u == '"':
			want = `\"`
		case u == '\\':
			want = `\\`
		case u >= 0x20 && u < 0x7F:
			want = string(rune(u))
		default:
			want = `\u` + string([]byte{digits[i/4096], digits[i/256%16], digits[i/16%16], digits[i%16]})
		}
		if q := lexer.Quote(unit(u)); q != ustr.Wide(`"`+want+`"`) {
			t.Errorf("Quote of %04X: %q", u, seen(q))
		}
	}
	for b, want := range map[string]string{
		"": `""`, "a": `"a"`, "it's": `"it's"`, `a"b`: `"a\"b"`, `\`: `"\\"`, `\"`: `"\\\""`, "a\nb": `"a\u000Ab"`, "\t": `"\u0009"`, "\x7f": `"\u007F"`, "~ ": `"~ "`, "\x1f": `"\u001F"`, "é": `"\u00E9"`, "😀": `"\uD83D\uDE00"`, "\x00": `"\u0000"`, "\u2028": `"\u2028"`, "/": `"/"`, `\u0041`: `"\\u0041"`,
	} {
		s := text(t, b)
		if q := lexer.Quote(s); q != ustr.Wide(want) || lexer.Quote(s+"\xFF") != q {
			t.Errorf("Quote(%q): %q", b, seen(q))
		}
	}
	if lexer.Quote("\x00") != ustr.Wide(`""`) || lexer.Quote(unit(0xDC00)+unit(0xD800)) != ustr.Wide(`"\uDC00\uD800"`) {
		t.Error("half a unit, halves of pairs")
	}
}

func TestLx3Spell(t *testing.T) {
	const digits = "0123456789ABCDEF"
	a := unit('a')
	for i := range 1 << 16 {
		u := uint16(i)
		s := a + unit(u)
		q, errno := lexer.Spell(s)
		switch {
		case !ustr.Part(u):
			if q != "" || errno != api.ErrArg {
				t.Errorf("Spell of a, %04X: %q, %d", u, seen(q), errno)
			}
		case u < 0x80:
			if q != s || errno != api.OK {
				t.Errorf("Spell of a, %04X: %q, %d", u, seen(q), errno)
			}
		default:
			want := `a\u` + string([]byte{digits[i/4096], digits[i/256%16], digits[i/16%16], digits[i%16]})
			if q != ustr.Wide(want) || errno != api.OK {
				t.Errorf("Spell of a, %04X: %q, %d", u, seen(q), errno)
			}
		}
	}
	for b, want := range map[string]string{"a": "a", "$_1": "$_1", "if": "if", "straße": `stra\u00DFe`, "é": `\u00E9`, "😀": `\uD83D\uDE00`, "\u0080": `\u0080`} {
		s := text(t, b)
		if q, errno := lexer.Spell(s); q != ustr.Wide(want) || errno != api.OK {
			t.Errorf("Spell(%q): %q, %d", b, seen(q), errno)
		}
		if q, errno := lexer.Spell(s + "\x00"); q != ustr.Wide(want) || errno != api.OK {
			t.Errorf("Spell(%q and half a unit): %q, %d", b, seen(q), errno)
		}
	}
	for _, b := range []string{"", " ", "1", "1a", "a b", "a ", `\u0061`, "a.b", "\x00", "#", "a\u2028", "\ufeff"} {
		if q, errno := lexer.Spell(text(t, b)); q != "" || errno != api.ErrArg {
			t.Errorf("Spell(%q): %q, %d", b, seen(q), errno)
		}
	}
	if q, errno := lexer.Spell("a"); q != "" || errno != api.ErrArg {
		t.Errorf("Spell of half a unit: %q, %d", q, errno)
	}
}
