package property

import (
	"quill/numtext"
	"quill/ustr"
)

// Index is an array index as a key; false: it is none.
func Index(key string) (uint32, bool) {
	const (
		most  = 1<<32 - 2
		units = 10 // as many as most has
	)
	n := uint64(0)
	size := ustr.Len(key)
	if len(key)%2 != 0 || size == 0 || size > units {
		return 0, false
	}
	for i := range size {
		u, _ := ustr.Unit(key, i)
		if u < '0' || u > '9' || n == 0 && i > 0 {
			return 0, false
		}
		n = 10*n + uint64(u-'0')
	}
	if n > most {
		return 0, false
	}
	return uint32(n), true
}

// Key is the key of an index.
func Key(i uint32) string { return numtext.Text(float64(i)) }
