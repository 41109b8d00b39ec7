package early_test

import (
	"slices"
	"strings"
	"testing"

	"quill/api"
	"quill/ast"
	"quill/early"
	"quill/parser"
	"quill/ustr"
)

// tree is a source's.
func tree(t *testing.T, src string) api.Node {
	t.Helper()
	n, place, errno := parser.Parse(ustr.Wide(src), api.MaxDepth)
	if errno != api.OK {
		t.Fatalf("%q: error %d at %d", src, errno, place)
	}
	return n
}

// seen is a tree's canonical text, for what a test says.
func seen(n api.Node) string {
	s, _ := ast.Print(n)
	return ustr.Encode(ustr.Slice(s, 0, 400))
}

// fine holds nothing to be wrong in sources.
func fine(t *testing.T, sources ...string) {
	t.Helper()
	for _, src := range sources {
		if place, errno := early.Check(tree(t, src)); place != 0 || errno != api.OK {
			t.Errorf("%q: error %d at %d", src, errno, place)
		}
	}
}

// wrong holds sources to be wrong: the first wrong node comes behind the sign ¦, which
// is taken out.
func wrong(t *testing.T, sources ...string) {
	t.Helper()
	for _, s := range sources {
		ahead, behind, ok := strings.Cut(s, "¦")
		if !ok || strings.Contains(behind, "¦") {
			t.Fatalf("%q marks no one place", s)
		}
		// A line ahead of all makes no wrong node's place that of no error.
		n := tree(t, ";\n"+ahead+behind)
		if place, errno := early.Check(n); place != len(ahead)+2 || errno != api.ErrSyntax {
			t.Errorf("%q: error %d at %d, not at %d", ahead+behind, errno, place-2, len(ahead))
		}
	}
}

// refused holds a tree to be none that may be.
func refused(t *testing.T, n api.Node) {
	t.Helper()
	if place, errno := early.Check(n); place != 0 || errno != api.ErrTree {
		t.Errorf("%s: error %d at %d, not ErrTree", seen(n), errno, place)
	}
}

// checked holds what is told of a tree.
func checked(t *testing.T, n api.Node, place int, errno api.Errno) {
	t.Helper()
	if i, e := early.Check(n); i != place || e != errno {
		t.Errorf("%s: error %d at %d, not %d at %d", seen(n), e, i, errno, place)
	}
}

// names holds a body's names to be these words.
func names(t *testing.T, n api.Node, words string) {
	t.Helper()
	l, errno := early.Names(n)
	if got := strings.Join(encoded(l), " "); got != words || errno != api.OK {
		t.Errorf("%q, error %d, not %q", got, errno, words)
	}
}

// nameless holds a node to have no body with names.
func nameless(t *testing.T, n api.Node) {
	t.Helper()
	if l, errno := early.Names(n); len(l) > 0 || errno != api.ErrTree {
		t.Errorf("Kind %d, %s: %q, error %d, not ErrTree", n.Kind, seen(n), encoded(l), errno)
	}
}

func encoded(l []string) []string {
	var told []string
	for _, s := range l {
		told = append(told, ustr.Encode(s))
	}
	return told
}

func node(kind int, kids ...api.Node) api.Node { return api.Node{Kind: kind, Kids: kids} }

func named(kind int, s string, kids ...api.Node) api.Node {
	return api.Node{Kind: kind, Str: ustr.Wide(s), Kids: kids}
}

func name(s string) api.Node { return named(api.NodeName, s) }

func empty() api.Node { return node(api.NodeEmpty) }

func block(l ...api.Node) api.Node { return node(api.NodeBlock, l...) }

func body(l ...api.Node) api.Node { return node(api.NodeBody, l...) }

func program(l ...api.Node) api.Node { return node(api.NodeProgram, l...) }

func plain(x api.Node) api.Node { return node(api.NodeExpr, x) }

func assign(x, y api.Node) api.Node {
	return api.Node{Kind: api.NodeAssign, Op: "=", Kids: []api.Node{x, y}}
}

// variable is a statement that declares one name.
func variable(s string) api.Node { return node(api.NodeVar, named(api.NodeDeclarator, s)) }

// wide is a tree of so many nodes.
func wide(nodes int) api.Node { return program(slices.Repeat([]api.Node{empty()}, nodes-1)...) }

// deep is a tree of so many levels.
func deep(levels int) api.Node {
	n := empty()
	for range levels - 2 {
		n = block(n)
	}
	return program(n)
}

// endless is a tree that stands in itself.
func endless() api.Node {
	l := make([]api.Node, 1)
	l[0] = block(l...) // its Kids are this list
	return program(l...)
}

// doubled is 2^times statements that lie at one place.
func doubled(times int, n api.Node) api.Node {
	for range times {
		n = block(n, n)
	}
	return n
}

// each goes through a tree's nodes, each ahead of its Kids.
func each(n *api.Node, f func(n *api.Node)) {
	f(n)
	for i := range n.Kids {
		each(&n.Kids[i], f)
	}
}

// copied is a tree that shares nothing with another one.
func copied(n api.Node) api.Node {
	kids := make([]api.Node, len(n.Kids), len(n.Kids)+1)
	for i, x := range n.Kids {
		kids[i] = copied(x)
	}
	n.Kids, n.Str, n.Op = kids, strings.Clone(n.Str), strings.Clone(n.Op)
	return n
}

// alike tells whether trees are the same, places too.
func alike(a, b api.Node) bool {
	if a.Pos != b.Pos || len(a.Kids) != len(b.Kids) {
		return false
	}
	for i, x := range a.Kids {
		if !alike(x, b.Kids[i]) {
			return false
		}
	}
	a.Kids, b.Kids = nil, nil
	return ast.Same(a, b)
}
