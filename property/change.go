package property

import (
	"quill/api"
	"quill/value"
)

// Change is a property behind being defined anew; false: it may not be.
func Change(old, p api.Prop) (api.Prop, bool) {
	if !old.Configurable && !lets(old, p) {
		return api.Prop{}, false
	}
	return over(turned(old, p), p), true
}

// lets tells whether p may be defined over old, which is not configurable.
func lets(old, p api.Prop) bool {
	switch {
	case p.Configurable && has(p, api.HasConfigurable):
		return false
	case p.Enumerable != old.Enumerable && has(p, api.HasEnumerable):
		return false
	case generic(p):
		return true
	case Accessor(p) != Accessor(old):
		return false
	case Accessor(p):
		return stays(p, api.HasGet, p.Get, old.Get) && stays(p, api.HasSet, p.Set, old.Set)
	}
	return old.Writable || !(p.Writable && has(p, api.HasWritable)) && stays(p, api.HasValue, p.Value, old.Value)
}

// generic tells whether a descriptor is of neither sort.
func generic(p api.Prop) bool { return !Accessor(p) && !Data(p) }

// stays tells whether p has not the part v, or it is the same as what was.
func stays(p api.Prop, part int, v, was api.Value) bool { return !has(p, part) || value.Same(v, was) }

// turned is old as one of p's sort: of another sort just what both have alike is kept.
func turned(old, p api.Prop) api.Prop {
	if generic(p) || Accessor(p) == Accessor(old) {
		return old
	}
	q := bare(Accessor(p))
	q.Enumerable, q.Configurable = old.Enumerable, old.Configurable
	return q
}
