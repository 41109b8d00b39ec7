package source_test

import (
	"math"
	"slices"
	"strings"
	"testing"

	"quill/api"
	"quill/ast"
	"quill/numtext"
	"quill/source"
	"quill/ustr"
)

// heard is what Read tells.
type heard struct {
	n     api.Node
	place int
	errno api.Errno
}

func read(b string, depth int) heard {
	n, place, errno := source.Read(b, depth)
	return heard{n, place, errno}
}

func sameHeard(a, b heard) bool {
	return a.place == b.place && a.errno == b.errno && alike(a.n, b.n)
}

// tree is a program's.
func tree(t *testing.T, b string) api.Node {
	t.Helper()
	h := read(b, api.MaxDepth)
	if h.errno != api.OK || h.place != 0 {
		t.Fatalf("%q: error %d at %d", short(b), h.errno, h.place)
	}
	return h.n
}

// refuses holds some bytes to be told as an error, beside which there is no tree.
func refuses(t *testing.T, b string, depth, place int, want api.Errno) {
	t.Helper()
	h := read(b, depth)
	if h.errno != want || h.place != place || !alike(h.n, api.Node{}) {
		t.Errorf("%q under %d: error %d at %d, not %d at %d; %s", short(b), depth, h.errno, h.place, want, place, seen(h.n))
	}
}

// wrong holds a program's texts, whose unit at the sign ¦ can't stand, to be refused
// there; the sign is taken out.
func wrong(t *testing.T, texts ...string) {
	t.Helper()
	for _, s := range texts {
		ahead, behind, ok := strings.Cut(s, "¦")
		if !ok || strings.Contains(behind, "¦") {
			t.Fatalf("%q marks no one place", s)
		}
		refuses(t, ahead+behind, api.MaxDepth, units(ahead), api.ErrSyntax)
	}
}

// units is how many code units some UTF-8 has: those of four bytes have two.
func units(b string) int {
	count := 0
	for _, r := range b {
		if count++; r > 0xFFFF {
			count++
		}
	}
	return count
}

// fine holds programs to have trees.
func fine(t *testing.T, programs ...string) {
	t.Helper()
	for _, b := range programs {
		if h := read(b, api.MaxDepth); h.errno != api.OK || h.place != 0 || h.n.Kind != api.NodeProgram {
			t.Errorf("%q: error %d at %d", short(b), h.errno, h.place)
		}
	}
}

// writes holds a tree to be written so.
func writes(t *testing.T, n api.Node, want string) {
	t.Helper()
	if b, errno := source.Write(n); b != want || errno != api.OK {
		t.Errorf("%q, error %d, not %q", short(b), errno, short(want))
	}
}

// unwritten holds a tree to be told as an error, beside which there is no text.
func unwritten(t *testing.T, n api.Node, want api.Errno) {
	t.Helper()
	if b, errno := source.Write(n); b != "" || errno != want {
		t.Errorf("%s: %q, error %d, not %d", seen(n), short(b), errno, want)
	}
}

func short(b string) string { return b[:min(len(b), 200)] }

// seen is a tree's canonical text, for what a test says.
func seen(n api.Node) string {
	s, _ := ast.Print(n)
	return ustr.Encode(ustr.Slice(s, 0, 200))
}

func node(kind int, kids ...api.Node) api.Node { return api.Node{Kind: kind, Kids: kids} }

func named(kind int, s string, kids ...api.Node) api.Node {
	return api.Node{Kind: kind, Str: ustr.Wide(s), Kids: kids}
}

func operated(kind int, op string, kids ...api.Node) api.Node {
	return api.Node{Kind: kind, Op: op, Kids: kids}
}

func name(s string) api.Node { return named(api.NodeName, s) }

func empty() api.Node { return node(api.NodeEmpty) }

func program(l ...api.Node) api.Node { return node(api.NodeProgram, l...) }

func plain(x api.Node) api.Node { return node(api.NodeExpr, x) }

func block(l ...api.Node) api.Node { return node(api.NodeBlock, l...) }

// deleted is what is wrong ahead of all running, and nothing else.
func deleted() api.Node { return plain(operated(api.NodeUnary, "delete", name("a"))) }

// wide is a list of so many empty statements.
func wide(count int) []api.Node { return slices.Repeat([]api.Node{empty()}, count) }

// nested is a tree of so many levels, of blocks.
func nested(levels int) api.Node {
	n := empty()
	for range levels - 2 {
		n = block(n)
	}
	return program(n)
}

// endless is a tree that stands in itself.
func endless() api.Node {
	l := make([]api.Node, 1)
	l[0] = block(l...) // its Kids are this list
	return program(l...)
}

// each goes through a tree's nodes, each ahead of its Kids.
func each(n *api.Node, f func(n *api.Node)) {
	f(n)
	for i := range n.Kids {
		each(&n.Kids[i], f)
	}
}

// copied is a tree that shares nothing with another one.
func copied(n api.Node) api.Node {
	kids := make([]api.Node, len(n.Kids), len(n.Kids)+1)
	for i, x := range n.Kids {
		kids[i] = copied(x)
	}
	n.Kids, n.Str, n.Op = kids, strings.Clone(n.Str), strings.Clone(n.Op)
	return n
}

// alike tells whether trees are the same, places too.
func alike(a, b api.Node) bool {
	return a.Kind == b.Kind && a.Op == b.Op && a.Str == b.Str && a.Flag == b.Flag && a.Pos == b.Pos &&
		math.Float64bits(a.Num) == math.Float64bits(b.Num) && slices.EqualFunc(a.Kids, b.Kids, alike)
}

// told is a tree in signs: of each node its Kind, its place, its other parts, and its
// Kids within parentheses.
func told(n api.Node) string {
	s := kindName(n.Kind) + "@" + ustr.Encode(numtext.Text(float64(n.Pos)))
	if n.Op != "" {
		s += ":" + n.Op
	}
	if n.Str != "" {
		s += ":" + ustr.Encode(n.Str)
	}
	if n.Num != 0 {
		s += ":" + ustr.Encode(numtext.Text(n.Num))
	}
	var l []string
	for _, x := range n.Kids {
		l = append(l, told(x))
	}
	if len(l) == 0 {
		return s
	}
	return s + "(" + strings.Join(l, " ") + ")"
}

func kindName(kind int) string {
	return map[int]string{
		api.NodeName: "name", api.NodeNumber: "number", api.NodeString: "string", api.NodeMember: "member", api.NodeCall: "call", api.NodeBinary: "binary", api.NodeAssign: "assign",
		api.NodeProgram: "program", api.NodeBody: "body", api.NodeDeclare: "declare", api.NodeExpr: "expr", api.NodeVar: "var", api.NodeDeclarator: "declarator", api.NodeReturn: "return", api.NodeObject: "object", api.NodeProperty: "property",
	}[kind]
}
