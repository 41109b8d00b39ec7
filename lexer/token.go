package lexer

import (
	"quill/api"
	"quill/numtext"
	"quill/ustr"
)

// read is the token that begins at a place, without its Pos; false: it can't be
// read.
func read(src string, at int) (api.Token, bool) {
	u, ok := ustr.Unit(src, at)
	switch {
	case !ok:
		return api.Token{Kind: api.TokenEnd, End: at}, true
	case ustr.Start(u) || u == '\\':
		return name(src, at)
	case u == '"' || u == '\'':
		return quoted(src, at)
	case decimal(u) || u == '.' && decimal(unit(src, at+1)):
		return number(src, at)
	}
	return mark(src, at)
}

// name is the name or word at a place.
func name(src string, at int) (api.Token, bool) {
	var l []uint16
	t := api.Token{Kind: api.TokenName, End: at}
	for {
		u, end := unit(src, t.End), t.End+1
		escaped := u == '\\'
		if escaped {
			var ok bool
			if u, end, ok = letter(src, end); !ok {
				return api.Token{}, false
			}
		}
		if !fits(u, len(l)) {
			if escaped {
				return api.Token{}, false
			}
			break
		}
		l = append(l, u)
		t.End, t.Escaped = end, t.Escaped || escaped
	}
	t.Text = ustr.Make(l)
	if Reserved(t.Text) {
		t.Kind = api.TokenWord
	}
	return t, true
}

// letter is what an escape of a name says, from behind its `\` on, and where it
// ends; false: it is none.
func letter(src string, at int) (uint16, int, bool) {
	if unit(src, at) != 'u' {
		return 0, 0, false
	}
	u, ok := hex(src, at+1, 4)
	return u, at + 5, ok
}

// fits tells whether a unit may be a name's i-th, from 0 on.
func fits(u uint16, i int) bool {
	if i == 0 {
		return ustr.Start(u)
	}
	return ustr.Part(u)
}

// number is the number at a place. Layer 3 tells what is one: what ends too
// early, such as 1e and 0x, or begins as an octal, is refused there.
func number(src string, at int) (api.Token, bool) {
	end := numberEnd(src, at)
	x, ok := numtext.Literal(ustr.Slice(src, at, end))
	behind := unit(src, end)
	if !ok || ustr.Part(behind) || behind == '\\' {
		return api.Token{}, false
	}
	return api.Token{Kind: api.TokenNumber, Num: x, End: end}, true
}

// numberEnd is where the digits end that begin at a place, with their point,
// exponent or mark of a hexadecimal.
func numberEnd(src string, at int) int {
	if u := unit(src, at+1); unit(src, at) == '0' && (u == 'x' || u == 'X') {
		return digitsEnd(src, at+2, hexadecimal)
	}
	at = digitsEnd(src, at, decimal)
	if unit(src, at) == '.' {
		at = digitsEnd(src, at+1, decimal)
	}
	if u := unit(src, at); u != 'e' && u != 'E' {
		return at
	}
	at++
	if u := unit(src, at); u == '+' || u == '-' {
		at++
	}
	return digitsEnd(src, at, decimal)
}

// digitsEnd is where the digits end that stand from a place on.
func digitsEnd(src string, at int, digit func(uint16) bool) int {
	for digit(unit(src, at)) {
		at++
	}
	return at
}

// mark is the longest mark at a place.
func mark(src string, at int) (api.Token, bool) {
	const longest = 4
	for i := range longest {
		s := ustr.Slice(src, at, at+longest-i)
		if marks(s) {
			return api.Token{Kind: api.TokenMark, Text: s, End: at + ustr.Len(s)}, true
		}
	}
	return api.Token{}, false
}

// marks tells whether a text is a mark.
func marks(s string) bool {
	switch ustr.Encode(s) {
	case "{", "}", "(", ")", "[", "]", ".", ";", ",", "?", ":",
		"<", ">", "<=", ">=", "==", "!=", "===", "!==",
		"+", "-", "*", "/", "%", "++", "--", "<<", ">>", ">>>",
		"&", "|", "^", "!", "~", "&&", "||",
		"=", "+=", "-=", "*=", "/=", "%=", "<<=", ">>=", ">>>=", "&=", "|=", "^=":
		return true
	}
	return false
}
