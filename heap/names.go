package heap

import (
	"quill/api"
	"quill/property"
)

// Names is an object's own keys.
func (h *Heap) Names(o int) []string {
	x, e := h.find(o)
	if e != api.OK {
		return nil
	}
	return x.names()
}

// names is the own keys.
func (x *object) names() []string {
	var l []string
	if x.Class == api.ClassString {
		for i := range x.units() {
			l = append(l, property.Key(uint32(i)))
		}
		l = append(l, lengthKey)
	}
	for r := range x.table.each {
		l = append(l, r.key)
	}
	return l
}

// Keys is the keys of the properties that can be gone through, up the prototypes.
func (h *Heap) Keys(o int) []string {
	var l []string
	met := map[string]struct{}{}
	for x, e := h.find(o); e == api.OK; x, e = h.find(x.Proto) {
		for _, key := range x.names() {
			if _, ok := met[key]; ok {
				continue
			}
			met[key] = struct{}{}
			if p, _ := x.own(key); p.Enumerable {
				l = append(l, key)
			}
		}
	}
	return l
}
