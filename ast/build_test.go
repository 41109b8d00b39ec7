package ast_test

import (
	"testing"

	"quill/api"
	"quill/ast"
	"quill/ustr"
)

// Trees are written here by the names that the chapter's table has for their parts.

func leaf(kind int) api.Node { return api.Node{Kind: kind} }

func node(kind int, kids ...api.Node) api.Node { return api.Node{Kind: kind, Kids: kids} }

func named(kind int, s string, kids ...api.Node) api.Node {
	return api.Node{Kind: kind, Str: ustr.Wide(s), Kids: kids}
}

func operated(kind int, op string, kids ...api.Node) api.Node {
	return api.Node{Kind: kind, Op: op, Kids: kids}
}

func name(s string) api.Node { return named(api.NodeName, s) }

func text(s string) api.Node { return named(api.NodeString, s) }

func number(x float64) api.Node { return api.Node{Kind: api.NodeNumber, Num: x} }

func truth(b bool) api.Node { return api.Node{Kind: api.NodeBool, Flag: b} }

func unary(op string, x api.Node) api.Node { return operated(api.NodeUnary, op, x) }

func postfix(op string, x api.Node) api.Node { return operated(api.NodePostfix, op, x) }

func binary(op string, x, y api.Node) api.Node { return operated(api.NodeBinary, op, x, y) }

func logical(op string, x, y api.Node) api.Node { return operated(api.NodeLogical, op, x, y) }

func assign(op string, x, y api.Node) api.Node { return operated(api.NodeAssign, op, x, y) }

func member(x api.Node, s string) api.Node { return named(api.NodeMember, s, x) }

func call(l ...api.Node) api.Node { return node(api.NodeCall, l...) }

func construct(l ...api.Node) api.Node { return node(api.NodeNew, l...) }

func index(x, y api.Node) api.Node { return node(api.NodeIndex, x, y) }

func comma(x, y api.Node) api.Node { return node(api.NodeComma, x, y) }

func choice(x, y, z api.Node) api.Node { return node(api.NodeConditional, x, y, z) }

func body(l ...api.Node) api.Node { return node(api.NodeBody, l...) }

func block(l ...api.Node) api.Node { return node(api.NodeBlock, l...) }

func plain(x api.Node) api.Node { return node(api.NodeExpr, x) }

func program(l ...api.Node) api.Node { return node(api.NodeProgram, l...) }

// function is a NodeFunction or a NodeDeclare without statements.
func function(kind int, s string, parameters ...string) api.Node {
	n := named(kind, s)
	for _, x := range parameters {
		n.Kids = append(n.Kids, name(x))
	}
	n.Kids = append(n.Kids, body())
	return n
}

func hole() api.Node { return leaf(api.NodeHole) }

func empty() api.Node { return leaf(api.NodeEmpty) }

// declarators is a NodeVar.
func declarators(l ...api.Node) api.Node { return node(api.NodeVar, l...) }

func declarator(s string, value ...api.Node) api.Node {
	return named(api.NodeDeclarator, s, value...)
}

// oneCase is a NodeCase that is not the default.
func oneCase(l ...api.Node) api.Node { return node(api.NodeCase, l...) }

func defaults(l ...api.Node) api.Node {
	return api.Node{Kind: api.NodeCase, Flag: true, Kids: l}
}

// let holds a tree to be one that may be.
func let(t *testing.T, n api.Node) {
	t.Helper()
	if errno := ast.Check(n); errno != api.OK {
		t.Errorf("%s: error %d", seen(n), errno)
	}
}

// refuses holds a tree to be none that may be, by both calls.
func refuses(t *testing.T, n api.Node) {
	t.Helper()
	if errno := ast.Check(n); errno != api.ErrTree {
		t.Errorf("%s: error %d, not ErrTree", seen(n), errno)
	}
	if s, errno := ast.Print(n); s != "" || errno != api.ErrTree {
		t.Errorf("%s: Print tells %q, %d", seen(n), ustr.Encode(s), errno)
	}
}

// prints holds a tree to have this text.
func prints(t *testing.T, n api.Node, want string) {
	t.Helper()
	s, errno := ast.Print(n)
	if s != ustr.Wide(want) || errno != api.OK {
		t.Errorf("%q, %d, not %q", ustr.Encode(s), errno, want)
	}
}

// deep is a tree of so many levels.
func deep(levels int) api.Node {
	n := empty()
	for range levels - 2 {
		n = block(n)
	}
	return program(n)
}

// wide is a tree of so many nodes.
func wide(nodes int) api.Node {
	l := make([]api.Node, nodes-1)
	for i := range l {
		l[i] = empty()
	}
	return program(l...)
}

// doubled is a tree of 2^times statements that lie at one place.
func doubled(times int, n api.Node) api.Node {
	for range times {
		n = block(n, n)
	}
	return program(n)
}

// endless is a tree that stands in itself: a ring of so many blocks.
func endless(ring int) api.Node {
	l := make([]api.Node, 1)
	n := block(empty())
	for range ring - 1 {
		n = block(n)
	}
	last := &n
	for last.Kids[0].Kind == api.NodeBlock {
		last = &last.Kids[0]
	}
	last.Kids = l
	l[0] = n
	return program(n)
}
