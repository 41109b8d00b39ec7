package heap

import (
	"slices"

	"quill/api"
	"quill/property"
	"quill/value"
)

// object is one as it is kept: its properties stand in the table, and its Props are none.
type object struct {
	api.Object
	table table
}

// keep is an object as it is kept behind so many others; false: it may not be.
func keep(o api.Object, ahead int) (*object, bool) {
	switch {
	case o.Class < api.ClassObject || o.Class > api.ClassArguments:
		return nil, false
	case o.Proto < -1 || o.Proto >= ahead:
		return nil, false
	case o.Native < 0 || o.Code < 0 || o.Scope < 0:
		return nil, false
	case o.Prim.Kind != prim(o.Class) || value.Check(o.Prim) != api.OK:
		return nil, false
	}
	x := &object{Object: o}
	x.Props, x.Bound = nil, slices.Clone(o.Bound)
	return x, values(o.Bound) && x.fill(o.Props) && x.suits()
}

// prim is the kind of value that an object of a class has inside; of most undefined.
func prim(class int) int {
	switch class {
	case api.ClassBoolean:
		return api.KindBool
	case api.ClassNumber:
		return api.KindNumber
	case api.ClassString:
		return api.KindString
	}
	return api.KindUndefined
}

// values tells whether all of a list may be.
func values(l []api.Value) bool {
	return !slices.ContainsFunc(l, func(v api.Value) bool { return value.Check(v) != api.OK })
}

// fill makes a table of an object's properties; false: it may not be.
func (x *object) fill(l []api.Keyed) bool {
	x.table.rows = make([]row, 0, len(l))
	for _, k := range l {
		if len(k.Key)%2 != 0 || !whole(k.P) || x.table.place(k.Key) >= 0 {
			return false
		}
		x.table.add(k.Key, k.P)
	}
	return true
}

// whole tells whether a descriptor may be, and is full.
func whole(p api.Prop) bool {
	return property.Check(p) == api.OK && p.Has == property.Full(p).Has
}

// suits tells whether an object's table suits its class. (Of no length, and of an
// accessor's, the value is undefined, which is no number.)
func (x *object) suits() bool {
	p, ok := x.table.get(lengthKey)
	switch x.Class {
	case api.ClassArray:
		n, e := arrayLength(p.Value)
		return p.Value.Kind == api.KindNumber && e == api.OK && !p.Enumerable && !p.Configurable && !x.hasIndex(n, 1<<32)
	case api.ClassString:
		return !ok && !x.hasIndex(0, uint64(x.units()))
	}
	return true
}

// hasIndex tells whether a table has an array index of at least from and below to.
func (x *object) hasIndex(from uint32, to uint64) bool {
	for r := range x.table.each {
		if i, ok := property.Index(r.key); ok && i >= from && uint64(i) < to {
			return true
		}
	}
	return false
}

// told is an object as it is told.
func (x *object) told() api.Object {
	o := x.Object
	o.Props, o.Bound = x.table.list(), slices.Clone(x.Bound)
	return o
}
