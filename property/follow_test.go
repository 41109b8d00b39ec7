package property_test

import (
	"testing"

	"quill/api"
	"quill/property"
)

func TestPr5Full(t *testing.T) {
	for _, p := range props() {
		q := property.Full(p)
		if !whole(q) || property.Check(q) != api.OK || !mayBe(q) {
			t.Errorf("Full(%s): %s", shown(p), shown(q))
		}
		if r := property.Full(q); !equal(r, q) {
			t.Errorf("Full of Full(%s): %s, not %s", shown(p), shown(r), shown(q))
		}
		if whole(p) && !equal(p, q) {
			t.Errorf("Full(%s): %s", shown(p), shown(q))
		}
	}
}

func TestPr5Plain(t *testing.T) {
	for _, v := range values() {
		for i := range 8 {
			p := property.Plain(v, i&1 != 0, i&2 != 0, i&4 != 0)
			if !whole(p) || property.Check(p) != api.OK || !property.Data(p) || property.Accessor(p) || !equal(property.Full(p), p) {
				t.Errorf("Plain: %s", shown(p))
			}
		}
	}
}

// keeps tells whether q has all that p has.
func keeps(q, p api.Prop) bool {
	r := recordOf(q)
	for part, v := range recordOf(p) {
		if w, ok := r[part]; !ok || !alike(v, w) {
			return false
		}
	}
	return true
}

func TestPr5Change(t *testing.T) {
	l := props()
	for _, old := range fulls() {
		if q, ok := property.Change(old, api.Prop{}); !ok || !equal(q, old) {
			t.Errorf("Change(%s) by nothing: %s, %v", shown(old), shown(q), ok)
		}
		if q, ok := property.Change(old, old); !ok || !equal(q, old) {
			t.Errorf("Change(%s) by itself: %s, %v", shown(old), shown(q), ok)
		}
		for _, p := range l {
			q, ok := property.Change(old, p)
			if !ok {
				continue
			}
			if !whole(q) || property.Check(q) != api.OK || !keeps(q, p) {
				t.Errorf("Change(%s, %s): %s", shown(old), shown(p), shown(q))
			}
			if !old.Configurable && !old.Writable && !equal(q, old) {
				t.Errorf("Change(%s, %s) of what is fixed: %s", shown(old), shown(p), shown(q))
			}
			if r, ok := property.Change(q, p); !ok || !equal(r, q) {
				t.Errorf("Change(%s, %s) again: %s, %v", shown(q), shown(p), shown(r), ok)
			}
		}
	}
}

// What is put is there, what is removed is not; the others stand as they stood.
func TestPr6Tables(t *testing.T) {
	keys := []string{wide("a"), wide("b"), "", wide("0"), wide("1"), "\x00a\x00"}
	p := marked(99)
	for n := range len(keys) + 1 {
		l := listed(keys[:n]...)
		for _, key := range keys {
			put, removed := property.Put(l, key, p), property.Remove(l, key)
			if i := property.Find(put, key); i < 0 || put[i].Key != key || !equal(put[i].P, p) {
				t.Errorf("Find of %q, put: %d", key, i)
			}
			if i := property.Find(removed, key); i != -1 {
				t.Errorf("Find of %q, removed: %d", key, i)
			}
			others := property.Remove(l, key)
			table(t, "the others of Put", property.Remove(put, key), others)
			for i, x := range others {
				j, k := property.Find(l, x.Key), property.Find(put, x.Key)
				if property.Find(removed, x.Key) != i || j != k || !equal(l[j].P, x.P) || !equal(put[k].P, x.P) {
					t.Errorf("%q stands elsewhere, or is another", x.Key)
				}
			}
		}
	}
}
