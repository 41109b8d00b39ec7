package ustr

import "strings"

// sharp is the one unit whose capital is two units: S and S.
const sharp = 0x00DF

// Upper is a text in capitals.
func Upper(s string) string {
	var b strings.Builder
	b.Grow(len(s))
	for i := range Len(s) {
		if u := at(s, i); u == sharp {
			writeUnit(&b, 'S')
			writeUnit(&b, 'S')
		} else {
			writeUnit(&b, capital(u))
		}
	}
	return b.String()
}

// capital is the capital of a unit that has one unit as such.
func capital(u uint16) uint16 {
	switch {
	case 'a' <= u && u <= 'z', 0xE0 <= u && u <= 0xFE && u != 0xF7:
		return u - 0x20
	case u == 0xB5:
		return 0x039C
	case u == 0xFF:
		return 0x0178
	}
	return u
}

// Lower is a text in small letters.
func Lower(s string) string {
	var b strings.Builder
	b.Grow(len(s))
	for i := range Len(s) {
		writeUnit(&b, small(at(s, i)))
	}
	return b.String()
}

// small is a unit's small letter.
func small(u uint16) uint16 {
	switch {
	case 'A' <= u && u <= 'Z', 0xC0 <= u && u <= 0xDE && u != 0xD7:
		return u + 0x20
	}
	return u
}

// Trim is a text without white space at its ends.
func Trim(s string) string {
	from, to := 0, Len(s)
	for from < to && blank(at(s, from)) {
		from++
	}
	for from < to && blank(at(s, to-1)) {
		to--
	}
	return Slice(s, from, to)
}

// blank tells whether a unit is white space or ends a line.
func blank(u uint16) bool { return Space(u) || Ends(u) }

// Space tells whether a unit is white space.
func Space(u uint16) bool {
	switch u {
	case 0x0009, 0x000B, 0x000C, 0x0020, 0x00A0, 0x1680, 0x180E, 0x202F, 0x205F, 0x3000, 0xFEFF:
		return true
	}
	return 0x2000 <= u && u <= 0x200A
}

// Ends tells whether a unit ends a line.
func Ends(u uint16) bool {
	return u == 0x000A || u == 0x000D || u == 0x2028 || u == 0x2029
}

// Start tells whether a unit may begin a name.
func Start(u uint16) bool {
	switch {
	case 'a' <= u && u <= 'z', 'A' <= u && u <= 'Z', u == '$', u == '_':
		return true
	}
	return u >= 0x80 && !blank(u)
}

// Part tells whether a unit may stand in a name.
func Part(u uint16) bool { return Start(u) || '0' <= u && u <= '9' }
