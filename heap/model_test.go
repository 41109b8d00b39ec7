package heap_test

import (
	"math"
	"slices"
	"strconv"

	"quill/api"
	"quill/property"
	"quill/ustr"
	"quill/value"
)

// model is a heap a second time: lists alone, and the clauses' steps as they stand.
type model struct {
	objects    []api.Object
	room, used int
}

// at is an array index by its digits.
func at(key string) (uint32, bool) {
	b := ustr.Encode(key)
	n, err := strconv.ParseUint(b, 10, 32)
	return uint32(n), err == nil && n < math.MaxUint32 && strconv.FormatUint(n, 10) == b && len(key) == 2*len(b)
}

func digits(i uint32) string { return wide(strconv.FormatUint(uint64(i), 10)) }

func (m *model) there(o int) bool { return o >= 0 && o < len(m.objects) }

// virtuals are a String object's properties that stand in no table.
func virtuals(o api.Object) []api.Keyed {
	if o.Class != api.ClassString {
		return nil
	}
	var l []api.Keyed
	for i, u := range ustr.Units(o.Prim.S) {
		l = append(l, api.Keyed{Key: digits(uint32(i)), P: plain(text(ustr.Make([]uint16{u})), "e")})
	}
	return append(l, keyed("length", plain(number(float64(len(l))), "")))
}

func (m *model) properties(o int) []api.Keyed {
	return slices.Concat(virtuals(m.objects[o]), m.objects[o].Props)
}

// may is the chapter's words of objects, one behind the other.
func (m *model) may(o api.Object) bool {
	ok := slices.Contains(classes(), o.Class) && o.Proto >= -1 && o.Proto < len(m.objects) && min(o.Native, o.Code, o.Scope) >= 0
	inside := map[int]int{api.ClassBoolean: api.KindBool, api.ClassNumber: api.KindNumber, api.ClassString: api.KindString}
	ok = ok && value.Check(o.Prim) == api.OK && o.Prim.Kind == inside[o.Class]
	for _, v := range o.Bound {
		ok = ok && value.Check(v) == api.OK
	}
	lengths, indexes := 0, 0
	for i, k := range o.Props {
		ok = ok && len(k.Key)%2 == 0 && property.Find(o.Props, k.Key) == i && property.Check(k.P) == api.OK && (k.P.Has == fullData || k.P.Has == fullAccessor)
		if n, is := at(k.Key); is {
			indexes = max(indexes, int(n)+1)
			ok = ok && (o.Class != api.ClassString || int(n) >= ustr.Len(o.Prim.S))
		}
		if k.Key == wide("length") {
			lengths++
		}
	}
	switch o.Class {
	case api.ClassString:
		return ok && lengths == 0
	case api.ClassArray:
		if !ok || lengths == 0 {
			return false
		}
		p := o.Props[property.Find(o.Props, wide("length"))].P
		x := p.Value.N
		return p.Has == fullData && !p.Enumerable && !p.Configurable && p.Value.Kind == api.KindNumber && x >= 0 && x < 1<<32 && x == math.Trunc(x) && x >= float64(indexes)
	}
	return ok
}

func (m *model) alloc(o api.Object) (int, api.Errno) {
	if !m.may(o) {
		return 0, api.ErrArg
	}
	if !m.take(1 + len(o.Props)) {
		return 0, api.ErrFull
	}
	o.Props, o.Bound = slices.Clone(o.Props), slices.Clone(o.Bound)
	m.objects = append(m.objects, o)
	return len(m.objects) - 1, api.OK
}

func (m *model) take(n int) bool {
	ok := n >= 0 && n <= m.room-m.used
	if ok {
		m.used += n
	}
	return ok
}

// own is 8.12.1.
func (m *model) own(o int, key string) (api.Prop, bool) {
	if m.there(o) {
		for _, k := range m.properties(o) {
			if k.Key == key {
				return k.P, true
			}
		}
	}
	return api.Prop{}, false
}

// property is 8.12.2.
func (m *model) property(o int, key string) (api.Prop, int, bool) {
	if !m.there(o) {
		return api.Prop{}, 0, false
	}
	if p, ok := m.own(o, key); ok {
		return p, o, true
	}
	return m.property(m.objects[o].Proto, key)
}

// canPut is 8.12.4.
func (m *model) canPut(o int, key string) bool {
	if !m.there(o) {
		return false
	}
	if p, ok := m.own(o, key); ok {
		if p.Has&api.HasAccessor != 0 {
			return p.Set != undefined()
		}
		return p.Writable
	}
	x := m.objects[o]
	p, _, ok := m.property(x.Proto, key)
	if !ok {
		return !x.Fixed
	}
	if p.Has&api.HasAccessor != 0 {
		return p.Set != undefined()
	}
	if x.Fixed {
		return false
	}
	return p.Writable
}

// define is the chapter's errors, and 15.4.5.1 or 8.12.9.
func (m *model) define(o int, key string, p api.Prop) (bool, api.Errno) {
	switch {
	case !m.there(o):
		return false, api.ErrNone
	case len(key)%2 != 0:
		return false, api.ErrArg
	case property.Check(p) != api.OK:
		return false, api.ErrProp
	case m.objects[o].Class == api.ClassArray:
		return m.defineArray(o, key, p)
	}
	return m.defineAny(o, key, p)
}

// defineAny is 8.12.9.
func (m *model) defineAny(o int, key string, p api.Prop) (bool, api.Errno) {
	current, ok := m.own(o, key) // 1
	x := &m.objects[o]
	if !ok && x.Fixed { // 3
		return false, api.OK
	}
	if !ok { // 4
		if !m.take(1) {
			return false, api.ErrFull
		}
		x.Props = append(x.Props, api.Keyed{Key: key, P: property.Full(p)})
		return true, api.OK
	}
	now, ok := property.Change(current, p) // 5 to 12
	if i := property.Find(x.Props, key); ok && i >= 0 {
		x.Props[i].P = now
	}
	return ok, api.OK
}

// defineArray is 15.4.5.1.
func (m *model) defineArray(o int, key string, p api.Prop) (bool, api.Errno) {
	length := wide("length")
	old, _ := m.own(o, length) // 1
	was := uint32(old.Value.N) // 2
	if key == length {         // 3
		if p.Has&api.HasValue == 0 { // a
			return m.defineAny(o, length, p)
		}
		return m.defineLength(o, old, p)
	}
	if i, ok := at(key); ok { // 4
		if i >= was && !old.Writable && (m.used < m.room || m.objects[o].Fixed) { // b
			return false, api.OK
		}
		ok, e := m.defineAny(o, key, p) // c
		if !ok || e != api.OK {         // d
			return false, e
		}
		if i >= was { // e
			old.Value = number(float64(i) + 1)
			return m.defineAny(o, length, old)
		}
		return true, api.OK // f
	}
	return m.defineAny(o, key, p) // 5
}

// defineLength is 15.4.5.1, steps 3.b to 3.n.
func (m *model) defineLength(o int, old, p api.Prop) (bool, api.Errno) {
	length, was := wide("length"), uint32(old.Value.N)
	x, e := value.ToNumber(p.Value)
	if e != api.OK || !(x >= 0 && x < 1<<32 && x == math.Trunc(x)) { // c, d
		return false, api.ErrRange
	}
	n := uint32(x)
	p.Value = number(float64(n)) // e
	if n >= was {                // f
		return m.defineAny(o, length, p)
	}
	if !old.Writable { // g
		return false, api.OK
	}
	writable := p.Has&api.HasWritable == 0 || p.Writable // h
	if !writable {                                       // i
		p.Writable = true
	}
	if ok, _ := m.defineAny(o, length, p); !ok { // j, k
		return false, api.OK
	}
	for was = m.above(o); n < was; was = m.above(o) { // l; from one that is there to the next
		if m.remove(o, digits(was-1)) {
			continue
		}
		p.Value = number(float64(was))
		if !writable {
			p.Writable = false
		}
		m.defineAny(o, length, p)
		return false, api.OK
	}
	if !writable { // m
		m.defineAny(o, length, api.Prop{Has: api.HasWritable})
	}
	return true, api.OK // n
}

// above is the greatest own array index, and 1.
func (m *model) above(o int) uint32 {
	n := uint32(0)
	for _, k := range m.objects[o].Props {
		if i, ok := at(k.Key); ok {
			n = max(n, i+1)
		}
	}
	return n
}

// remove is 8.12.7.
func (m *model) remove(o int, key string) bool {
	p, ok := m.own(o, key)
	if !ok {
		return true
	}
	if !p.Configurable {
		return false
	}
	m.objects[o].Props = property.Remove(m.objects[o].Props, key)
	return true
}

func (m *model) names(o int) []string {
	var l []string
	if m.there(o) {
		for _, k := range m.properties(o) {
			l = append(l, k.Key)
		}
	}
	return l
}

func (m *model) keys(o int) []string {
	var met, l []string
	for ; m.there(o); o = m.objects[o].Proto {
		for _, key := range m.names(o) {
			p, _ := m.own(o, key)
			if !slices.Contains(met, key) && p.Enumerable {
				l = append(l, key)
			}
			met = append(met, key)
		}
	}
	return l
}

func (m *model) prevent(o int) {
	if m.there(o) {
		m.objects[o].Fixed = true
	}
}

func (m *model) fixed(o int) bool { return !m.there(o) || m.objects[o].Fixed }
