package ustr

import (
	"slices"
	"strings"
)

// greatest is how many units 2^31 - 1 bytes hold. Nothing is promised of
// longer texts: Repeat refuses them rather than use up all memory.
const greatest = (1<<31 - 1) / 2

// A text is looked for by its borders (Knuth, Morris, Pratt): so that it takes
// steps as many as the texts' units, however alike their parts are.

// borders tells, for each unit of t, how many units of t's beginning end with
// it, fewer than all up to it.
func borders(t string) []int {
	l := make([]int, Len(t))
	met := 0
	for i := 1; i < len(l); i++ {
		met = step(t, l, met, at(t, i))
		l[i] = met
	}
	return l
}

// step is how many units of t's beginning end with the unit u, if met of them
// end right ahead of it. Of the borders l it reads those ahead of met.
func step(t string, l []int, met int, u uint16) int {
	for met > 0 && at(t, met) != u {
		met = l[met-1]
	}
	if at(t, met) == u {
		met++
	}
	return met
}

// find is the least place, from or behind it, at which t stands in s; -1: there
// is none. t is not empty, and l its borders.
func find(s, t string, l []int, from int) int {
	met := 0
	for i := from; i < Len(s); i++ {
		met = step(t, l, met, at(s, i))
		if met == len(l) {
			return i + 1 - met
		}
	}
	return -1
}

// Index is where a text stands in another one, from a place on; -1: it does not.
func Index(s, t string, from int) int {
	from = max(from, 0)
	if from > Len(s)-Len(t) {
		return -1
	}
	if Len(t) == 0 {
		return from
	}
	return find(s, t, borders(t), from)
}

// LastIndex is where a text stands last in another one, up to a place; -1: it does not.
func LastIndex(s, t string, from int) int {
	from = min(from, Len(s)-Len(t))
	if from < 0 {
		return -1
	}
	if Len(t) == 0 {
		return from
	}
	back := reverse(t)
	l := borders(back)
	met := 0
	for i := from + Len(t) - 1; i >= 0; i-- {
		met = step(back, l, met, at(s, i))
		if met == len(l) {
			return i
		}
	}
	return -1
}

// reverse is a text from its end on.
func reverse(s string) string {
	l := Units(s)
	slices.Reverse(l)
	return Make(l)
}

// Repeat is a text again and again; false: it is longer than so many units.
func Repeat(s string, n, most int) (string, bool) {
	if n < 1 || Len(s) == 0 {
		return "", true
	}
	if n > min(most, greatest)/Len(s) {
		return "", false
	}
	return strings.Repeat(whole(s), n), true
}

// Split is the parts of a text between others.
func Split(s, sep string) []string {
	if Len(sep) == 0 {
		return single(s)
	}
	var parts []string
	l := borders(sep)
	from := 0
	for {
		i := find(s, sep, l, from)
		if i < 0 {
			return append(parts, Slice(s, from, Len(s)))
		}
		parts = append(parts, Slice(s, from, i))
		from = i + len(l)
	}
}

// single is a text's units, each a text of its own.
func single(s string) []string {
	parts := make([]string, Len(s))
	for i := range parts {
		parts[i] = Slice(s, i, i+1)
	}
	return parts
}

// Join is texts with another one between.
func Join(l []string, sep string) string {
	var b strings.Builder
	for i, s := range l {
		if i > 0 {
			b.WriteString(whole(sep))
		}
		b.WriteString(whole(s))
	}
	return b.String()
}
