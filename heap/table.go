package heap

import (
	"slices"

	"quill/api"
	"quill/property"
)

// few is up to how many rows are gone through one by one: beside so few a map would take
// more room than they.
const few = 8

// table is properties in the order in which they came to be. Of more than few those that
// are removed leave gaps, closed when they are more than the rest: so that removing is
// cheap, wherever in the order one stands.
type table struct {
	rows   []row
	places map[string]int // where each key's row is; nil of few
}

// row is a property, or a gap. It takes half of an api.Prop's room, as few have getters
// and setters.
type row struct {
	key                                string
	value                              api.Value
	calls                              *calls // of an accessor
	writable, enumerable, configurable bool
	gap                                bool
}

// calls are a getter and a setter.
type calls struct{ get, set api.Value }

// rowOf is a full descriptor as it is kept.
func rowOf(key string, p api.Prop) row {
	r := row{key: key, value: p.Value, writable: p.Writable, enumerable: p.Enumerable, configurable: p.Configurable}
	if property.Accessor(p) {
		r.calls = &calls{p.Get, p.Set}
	}
	return r
}

// prop is the descriptor.
func (r *row) prop() api.Prop {
	p := property.Plain(r.value, r.writable, r.enumerable, r.configurable)
	if r.calls != nil {
		p.Has = p.Has&^api.HasData | api.HasAccessor
		p.Get, p.Set = r.calls.get, r.calls.set
	}
	return p
}

// place is where a key's row is; -1: there is none.
func (t *table) place(key string) int {
	if t.places != nil {
		if i, ok := t.places[key]; ok {
			return i
		}
		return -1
	}
	for i := range t.rows {
		if t.rows[i].key == key {
			return i
		}
	}
	return -1
}

// size is how many properties there are.
func (t *table) size() int {
	if t.places != nil {
		return len(t.places)
	}
	return len(t.rows)
}

// get is a key's property; false: there is none.
func (t *table) get(key string) (api.Prop, bool) {
	i := t.place(key)
	if i < 0 {
		return api.Prop{}, false
	}
	return t.rows[i].prop(), true
}

// set changes a key's property, if there is one.
func (t *table) set(key string, p api.Prop) {
	if i := t.place(key); i >= 0 {
		t.rows[i] = rowOf(key, p)
	}
}

// add puts a property behind all, of a key that has none.
func (t *table) add(key string, p api.Prop) {
	t.rows = append(t.rows, rowOf(key, p))
	if t.places != nil {
		t.places[key] = len(t.rows) - 1
	} else if len(t.rows) > few {
		t.chart()
	}
}

// remove removes a key's property, if there is one.
func (t *table) remove(key string) {
	i := t.place(key)
	switch {
	case i < 0:
	case t.places == nil:
		t.rows = slices.Delete(t.rows, i, i+1)
	default:
		delete(t.places, key)
		t.rows[i] = row{gap: true}
		if len(t.rows) > 2*len(t.places) {
			t.close()
		}
	}
}

// close lays the rows anew, without gaps.
func (t *table) close() {
	rows := make([]row, 0, t.size())
	for r := range t.each {
		rows = append(rows, *r)
	}
	*t = table{rows: rows}
	if len(rows) > few {
		t.chart()
	}
}

// chart makes the map of rows without gaps.
func (t *table) chart() {
	t.places = make(map[string]int, len(t.rows))
	for i := range t.rows {
		t.places[t.rows[i].key] = i
	}
}

// each goes through the properties, in order.
func (t *table) each(yield func(*row) bool) {
	for i := range t.rows {
		if r := &t.rows[i]; !r.gap && !yield(r) {
			return
		}
	}
}

// list is the properties, in order.
func (t *table) list() []api.Keyed {
	l := make([]api.Keyed, 0, t.size())
	for r := range t.each {
		l = append(l, api.Keyed{Key: r.key, P: r.prop()})
	}
	return l
}
