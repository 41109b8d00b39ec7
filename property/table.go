package property

import (
	"slices"

	"quill/api"
)

// Find is where a key stands in a table; -1: it does not.
func Find(l []api.Keyed, key string) int {
	for i := range l {
		if l[i].Key == key {
			return i
		}
	}
	return -1
}

// Put is a table with a property.
func Put(l []api.Keyed, key string, p api.Prop) []api.Keyed {
	one := []api.Keyed{{Key: key, P: p}}
	if i := Find(l, key); i >= 0 {
		return slices.Concat(l[:i], one, l[i+1:])
	}
	return slices.Concat(l, one)
}

// Remove is a table without a property.
func Remove(l []api.Keyed, key string) []api.Keyed {
	if i := Find(l, key); i >= 0 {
		return slices.Concat(l[:i], l[i+1:])
	}
	return slices.Concat(l)
}
