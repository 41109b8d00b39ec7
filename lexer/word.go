package lexer

import (
	"quill/api"
	"quill/ustr"
)

// Reserved tells whether a name is a reserved word.
func Reserved(s string) bool {
	switch ustr.Encode(s) {
	case "break", "case", "catch", "class", "const", "continue", "debugger", "default",
		"delete", "do", "else", "enum", "export", "extends", "false", "finally",
		"for", "function", "if", "implements", "import", "in", "instanceof", "interface",
		"let", "new", "null", "package", "private", "protected", "public", "return",
		"static", "super", "switch", "this", "throw", "true", "try", "typeof",
		"var", "void", "while", "with", "yield":
		return true
	}
	return false
}

// Named tells whether a text is a name, reserved or not.
func Named(s string) bool {
	for i := range ustr.Len(s) {
		if !fits(unit(s, i), i) {
			return false
		}
	}
	return ustr.Len(s) > 0
}

// Quote is a string's literal.
func Quote(s string) string {
	l := []uint16{'"'}
	for i := range ustr.Len(s) {
		u := unit(s, i)
		switch {
		case u == '"' || u == '\\':
			l = append(l, '\\', u)
		case 0x20 <= u && u <= 0x7E:
			l = append(l, u)
		default:
			l = spelt(l, u)
		}
	}
	return ustr.Make(append(l, '"'))
}

// Spell is a name's literal.
func Spell(s string) (string, api.Errno) {
	if !Named(s) {
		return "", api.ErrArg
	}
	var l []uint16
	for i := range ustr.Len(s) {
		if u := unit(s, i); u < 0x80 {
			l = append(l, u)
		} else {
			l = spelt(l, u)
		}
	}
	return ustr.Make(l), api.OK
}

// spelt is a list with a unit's escape: `\u` and four digits.
func spelt(l []uint16, u uint16) []uint16 {
	const (
		digits = "0123456789ABCDEF"
		count  = 4
	)
	l = append(l, '\\', 'u')
	for i := range count {
		l = append(l, uint16(digits[u>>(4*(count-1-i))&15]))
	}
	return l
}
