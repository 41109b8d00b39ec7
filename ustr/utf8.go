package ustr

import (
	"strings"
	"unicode/utf8"

	"quill/api"
)

const (
	firstHigh  = 0xD800  // of the units that begin pairs
	firstLow   = 0xDC00  // of those that end pairs
	behindLow  = 0xE000  // the unit behind the last of those
	firstPoint = 0x10000 // of the code points that are pairs
)

// Decode is the text of some UTF-8, or where that is none.
func Decode(b string) (string, int, api.Errno) {
	var w strings.Builder
	w.Grow(2 * len(b))
	for i := 0; i < len(b); {
		r, n := utf8.DecodeRuneInString(b[i:])
		// FFFD is also a code point like others, of three bytes.
		if r == utf8.RuneError && n == 1 {
			return "", i, api.ErrEncoding
		}
		writePoint(&w, r)
		i += n
	}
	return w.String(), 0, api.OK
}

// writePoint writes a code point's unit, or its pair.
func writePoint(b *strings.Builder, r rune) {
	if r < firstPoint {
		writeUnit(b, uint16(r))
		return
	}
	r -= firstPoint
	writeUnit(b, firstHigh|uint16(r>>10))
	writeUnit(b, firstLow|uint16(r&0x3FF))
}

// Encode is a text as UTF-8.
func Encode(s string) string {
	var b strings.Builder
	b.Grow(Len(s))
	for i := 0; i < Len(s); i++ {
		u := at(s, i)
		switch {
		case u < firstHigh || u >= behindLow:
			b.WriteRune(rune(u))
		case pair(s, i):
			b.WriteRune(firstPoint + rune(u-firstHigh)<<10 + rune(at(s, i+1)-firstLow))
			i++
		default:
			writeEscape(&b, u)
		}
	}
	return b.String()
}

// pair tells whether the unit at i and the one behind it are a pair: the upper
// six bits say of what half of pairs a unit is.
func pair(s string, i int) bool {
	return i+1 < Len(s) && at(s, i)&0xFC00 == firstHigh && at(s, i+1)&0xFC00 == firstLow
}

// writeEscape writes a unit that has no UTF-8 as an escape.
func writeEscape(b *strings.Builder, u uint16) {
	const digits = "0123456789ABCDEF"
	b.WriteString(`\u`)
	for shift := 12; shift >= 0; shift -= 4 {
		b.WriteByte(digits[u>>shift&15])
	}
}
