package heap

import (
	"quill/api"
	"quill/property"
	"quill/ustr"
	"quill/value"
)

// lengthKey is the key `length`.
const lengthKey = "\x00l\x00e\x00n\x00g\x00t\x00h"

// Own is an object's own property; false: it has none such.
func (h *Heap) Own(o int, key string) (api.Prop, bool) {
	x, e := h.find(o)
	if e != api.OK {
		return api.Prop{}, false
	}
	return x.own(key)
}

// own is an own property; false: there is none.
func (x *object) own(key string) (api.Prop, bool) {
	if p, ok := x.virtual(key); ok {
		return p, true
	}
	return x.table.get(key)
}

// virtual is a String object's property that stands in no table; false: there is none.
func (x *object) virtual(key string) (api.Prop, bool) {
	if x.Class != api.ClassString {
		return api.Prop{}, false
	}
	if key == lengthKey {
		return property.Plain(value.Number(float64(x.units())), false, false, false), true
	}
	i, ok := property.Index(key)
	if !ok || uint64(i) >= uint64(x.units()) {
		return api.Prop{}, false
	}
	unit := ustr.Slice(x.Prim.S, int(i), int(i)+1)
	return property.Plain(value.String(unit), false, true, false), true
}

// units is how many units the text inside has.
func (x *object) units() int { return ustr.Len(x.Prim.S) }

// Property is a property, and the object that has it, up the prototypes; false: there is none.
func (h *Heap) Property(o int, key string) (api.Prop, int, bool) {
	for x, e := h.find(o); e == api.OK; x, e = h.find(o) {
		if p, ok := x.own(key); ok {
			return p, o, true
		}
		o = x.Proto
	}
	return api.Prop{}, 0, false
}

// CanPut tells whether a property can be given a value.
func (h *Heap) CanPut(o int, key string) bool {
	x, e := h.find(o)
	p, owner, ok := h.Property(o, key)
	switch {
	case e != api.OK:
		return false
	case !ok:
		return !x.Fixed
	case property.Accessor(p):
		return p.Set.Kind == api.KindObject
	}
	return p.Writable && (owner == o || !x.Fixed)
}

// Delete removes an own property; false: it may not be.
func (h *Heap) Delete(o int, key string) bool {
	x, e := h.find(o)
	if e != api.OK {
		return e == api.ErrNone
	}
	return x.remove(key)
}

// remove removes an own property; false: it may not be.
func (x *object) remove(key string) bool {
	p, ok := x.own(key)
	if ok && !p.Configurable {
		return false
	}
	x.table.remove(key)
	return true
}

// Prevent lets no property be added to an object any more.
func (h *Heap) Prevent(o int) {
	if x, e := h.find(o); e == api.OK {
		x.Fixed = true
	}
}

// Fixed tells whether an object can't be extended.
func (h *Heap) Fixed(o int) bool {
	x, e := h.find(o)
	return e != api.OK || x.Fixed
}
