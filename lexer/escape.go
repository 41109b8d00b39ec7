package lexer

import (
	"quill/api"
	"quill/ustr"
)

// quoted is the string at a place.
func quoted(src string, at int) (api.Token, bool) {
	quote := unit(src, at)
	var l []uint16
	at++
	for {
		u, ok := ustr.Unit(src, at)
		switch {
		case !ok || ustr.Ends(u):
			return api.Token{}, false
		case u == quote:
			return api.Token{Kind: api.TokenString, Text: ustr.Make(l), End: at + 1}, true
		case u == '\\':
			l, at, ok = escape(l, src, at+1)
			if !ok {
				return api.Token{}, false
			}
		default:
			l = append(l, u)
			at++
		}
	}
}

// escape is a list with what an escape of a string says, from behind its `\` on,
// and where it ends; false: it is none.
func escape(l []uint16, src string, at int) ([]uint16, int, bool) {
	u, ok := ustr.Unit(src, at)
	at++
	switch {
	case u == 'x':
		u, ok = hex(src, at, 2)
		at += 2
	case u == 'u':
		u, ok = hex(src, at, 4)
		at += 4
	case ustr.Ends(u):
		if u == '\r' && unit(src, at) == '\n' {
			at++
		}
		return l, at, true
	case u == '0':
		u, ok = 0, !decimal(unit(src, at))
	case decimal(u):
		ok = false
	default:
		u = single(u)
	}
	return append(l, u), at, ok
}

// single is what a `\` and one unit say that is no digit, no x and no u.
func single(u uint16) uint16 {
	switch u {
	case 'b':
		return '\b'
	case 't':
		return '\t'
	case 'n':
		return '\n'
	case 'v':
		return '\v'
	case 'f':
		return '\f'
	case 'r':
		return '\r'
	}
	return u
}

// hex is the unit of n hexadecimal digits at a place; false: there are fewer.
func hex(src string, at, n int) (uint16, bool) {
	var sum uint16
	for i := range n {
		u := unit(src, at+i)
		if !hexadecimal(u) {
			return 0, false
		}
		sum = sum<<4 | digit(u)
	}
	return sum, true
}

// digit is how much a hexadecimal digit counts.
func digit(u uint16) uint16 {
	switch {
	case u >= 'a':
		return u - 'a' + 10
	case u >= 'A':
		return u - 'A' + 10
	}
	return u - '0'
}

// decimal tells whether a unit is a decimal digit.
func decimal(u uint16) bool { return '0' <= u && u <= '9' }

// hexadecimal tells whether a unit is a hexadecimal digit.
func hexadecimal(u uint16) bool {
	return decimal(u) || 'a' <= u && u <= 'f' || 'A' <= u && u <= 'F'
}
