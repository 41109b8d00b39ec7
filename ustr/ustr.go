// Package ustr is layer 1: texts of code units: see shared/doc/01-ustr.md.
//
// A text is a Go string of two bytes a unit, the higher one first. Go strings
// can't be changed, so a part of a text is answered as a part of that string.
package ustr

import "strings"

// whole is s without a last byte that is half a unit: it counts not.
func whole(s string) string { return s[:len(s)&^1] }

// at is the unit at a place that s has.
func at(s string, i int) uint16 { return uint16(s[2*i])<<8 | uint16(s[2*i+1]) }

// writeUnit writes a unit as a text has it.
func writeUnit(b *strings.Builder, u uint16) {
	b.WriteByte(byte(u >> 8))
	b.WriteByte(byte(u))
}

// Wide is a text of bytes, each a unit.
func Wide(b string) string {
	var w strings.Builder
	w.Grow(2 * len(b))
	for i := range len(b) {
		writeUnit(&w, uint16(b[i]))
	}
	return w.String()
}

// Make is a text of units.
func Make(l []uint16) string {
	var w strings.Builder
	w.Grow(2 * len(l))
	for _, u := range l {
		writeUnit(&w, u)
	}
	return w.String()
}

// Units is a text's units.
func Units(s string) []uint16 {
	l := make([]uint16, Len(s))
	for i := range l {
		l[i] = at(s, i)
	}
	return l
}

// Len is how many units a text has.
func Len(s string) int { return len(s) / 2 }

// Unit is a text's unit; false: there is none.
func Unit(s string, i int) (uint16, bool) {
	if i < 0 || i >= Len(s) {
		return 0, false
	}
	return at(s, i), true
}

// Slice is a part of a text.
func Slice(s string, from, to int) string {
	from, to = max(from, 0), min(to, Len(s))
	if from >= to {
		return ""
	}
	return s[2*from : 2*to]
}

// Compare is the order of texts.
func Compare(a, b string) int { return strings.Compare(whole(a), whole(b)) }
