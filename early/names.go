package early

import "quill/api"

// statements are a program's or a body's own, or those of a function's body; false, if a
// node has none.
func statements(n api.Node) ([]api.Node, bool) {
	if n.Kind == api.NodeFunction || n.Kind == api.NodeDeclare {
		k := len(n.Kids) - 1
		if k < 0 || n.Kids[k].Kind != api.NodeBody {
			return nil, false
		}
		n = n.Kids[k]
	}
	return n.Kids, n.Kind == api.NodeProgram || n.Kind == api.NodeBody
}

// table is names in the order in which they came first.
type table struct {
	names []string
	met   map[string]struct{}
}

// add puts a name behind the others, if it is new.
func (t *table) add(name string) {
	if _, ok := t.met[name]; !ok {
		t.met[name] = struct{}{}
		t.names = append(t.names, name)
	}
}

// functions adds the names of those that are declared: they stand among a body's
// statements themselves, never within these.
func (t *table) functions(l []api.Node) {
	for i := range l {
		if l[i].Kind == api.NodeDeclare {
			t.add(l[i].Str)
		}
	}
}

// variables adds the names of all that are declared in nodes, and within them, but not
// within functions.
func (t *table) variables(l []api.Node) {
	for i := range l {
		n := &l[i]
		switch n.Kind {
		case api.NodeFunction, api.NodeDeclare:
			continue
		case api.NodeDeclarator:
			t.add(n.Str)
		}
		t.variables(n.Kids)
	}
}
