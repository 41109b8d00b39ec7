package heap

import (
	"slices"

	"quill/api"
	"quill/number"
	"quill/property"
	"quill/value"
)

// Define defines an own property; false: it may not be.
func (h *Heap) Define(o int, key string, p api.Prop) (bool, api.Errno) {
	x, e := h.find(o)
	switch {
	case e != api.OK:
		return false, e
	case len(key)%2 != 0:
		return false, api.ErrArg
	case property.Check(p) != api.OK:
		return false, api.ErrProp
	case x.Class != api.ClassArray:
		return h.define(x, key, p)
	case key == lengthKey && p.Has&api.HasValue != 0:
		return x.defineLength(p)
	}
	if i, ok := property.Index(key); ok {
		return h.defineIndex(x, key, i, p)
	}
	return h.define(x, key, p)
}

// define is what defining is of all but arrays (8.12.9).
func (h *Heap) define(x *object, key string, p api.Prop) (bool, api.Errno) {
	old, ok := x.own(key)
	switch {
	case ok:
		return x.change(key, old, p), api.OK
	case x.Fixed:
		return false, api.OK
	case !h.Take(1):
		return false, api.ErrFull
	}
	x.table.add(key, property.Full(p))
	return true, api.OK
}

// change defines p over an own property; false: it may not be. (What stands in no table
// stays what it is, as all that may be over it is the same.)
func (x *object) change(key string, old, p api.Prop) bool {
	q, ok := property.Change(old, p)
	if ok {
		x.table.set(key, q)
	}
	return ok
}

// length is an array's length, and its property.
func (x *object) length() (uint32, api.Prop) {
	p, _ := x.table.get(lengthKey)
	return number.Uint32(p.Value.N), p
}

// setLength gives an array a length, whether or not that can be written.
func (x *object) setLength(n uint32) {
	_, p := x.length()
	p.Value = value.Number(float64(n))
	x.table.set(lengthKey, p)
}

// arrayLength is the length that a value stands for.
func arrayLength(v api.Value) (uint32, api.Errno) {
	x, e := value.ToNumber(v)
	n := number.Uint32(x)
	if e != api.OK || !number.Equal(float64(n), x) {
		return 0, api.ErrRange
	}
	return n, api.OK
}

// defineIndex defines an array's index, of that key (15.4.5.1, step 4).
func (h *Heap) defineIndex(x *object, key string, i uint32, p api.Prop) (bool, api.Errno) {
	n, length := x.length()
	// For lack of cells define refuses by an error, which comes ahead of the false.
	if i >= n && !length.Writable && h.used < h.room {
		return false, api.OK
	}
	ok, e := h.define(x, key, p)
	if ok && i >= n {
		x.setLength(i + 1)
	}
	return ok, e
}

// defineLength defines an array's length, where a value is told (15.4.5.1, step 3). (If p
// says so the length is not writable ahead of the removing already, which does not ask for
// it; of one that was not writable change lets nothing less be made.)
func (x *object) defineLength(p api.Prop) (bool, api.Errno) {
	n, e := arrayLength(p.Value)
	if e != api.OK {
		return false, e
	}
	p.Value = value.Number(float64(n))
	was, old := x.length()
	if !x.change(lengthKey, old, p) {
		return false, api.OK
	}
	if n >= was {
		return true, api.OK
	}
	left := x.shrink(was, n)
	x.setLength(left)
	return left == n, api.OK
}

// shrink removes an array's indexes from a length down to another one, the greatest first,
// up to one that can't be: it tells the length that is left.
func (x *object) shrink(from, to uint32) uint32 {
	for _, i := range x.indexes(from, to) {
		if !x.remove(property.Key(i)) {
			return i + 1
		}
	}
	return to
}

// indexes is an array's own indexes from a length down to another one; if those between
// are fewer than its properties, all these.
func (x *object) indexes(from, to uint32) []uint32 {
	var l []uint32
	if uint64(from-to) <= uint64(x.table.size()) {
		for i := from; i > to; i-- {
			l = append(l, i-1)
		}
		return l
	}
	for r := range x.table.each {
		if i, ok := property.Index(r.key); ok && i >= to {
			l = append(l, i)
		}
	}
	slices.Sort(l)
	slices.Reverse(l)
	return l
}
