package early_test

import (
	"slices"

	"quill/api"
	"quill/ustr"
)

// The chapter's words a second time: of each node is known what stands about it, from
// the root on, and each way to be wrong is a rule of its own, asked of that alone.

// path is a node, the last one, and all that it stands in, from the root on; each with
// the number that it has among the Kids of the one ahead.
type path []step

type step struct {
	n *api.Node
	i int
}

// paths are those of a tree's nodes, in order.
func paths(n *api.Node) []path {
	var l []path
	var walk func(p path)
	walk = func(p path) {
		l = append(l, slices.Clone(p))
		x := p[len(p)-1].n
		for i := range x.Kids {
			walk(append(p, step{&x.Kids[i], i}))
		}
	}
	walk(path{{n, 0}})
	return l
}

func (p path) node() *api.Node { return p[len(p)-1].n }

func (p path) is(kinds ...int) bool { return slices.Contains(kinds, p.node().Kind) }

// under tells whether the node stands in one of a Kind.
func (p path) under(kinds ...int) bool { return len(p) > 1 && p[:len(p)-1].is(kinds...) }

// place is the number that the node has among its siblings.
func (p path) place() int { return p[len(p)-1].i }

// ahead are the siblings ahead.
func (p path) ahead() []api.Node { return p[len(p)-2].n.Kids[:p.place()] }

// about are the paths of what stands about the node, the nearest first, up to a
// function.
func (p path) about() []path {
	var l []path
	for i := len(p) - 1; i > 0 && !p[:i].is(api.NodeFunction, api.NodeDeclare); i-- {
		l = append(l, p[:i])
	}
	return l
}

// inFunction tells whether the node is within a function.
func (p path) inFunction() bool {
	return slices.ContainsFunc(p[:len(p)-1], func(x step) bool {
		return x.n.Kind == api.NodeFunction || x.n.Kind == api.NodeDeclare
	})
}

// loops are the paths of the loops about the node: it stands in their bodies.
func (p path) loops() []path {
	var l []path
	for _, q := range p.about() {
		i := p[len(q)].i
		if q.is(api.NodeDo) && i == 0 || q.is(api.NodeWhile, api.NodeFor, api.NodeForIn) && i == len(q.node().Kids)-1 {
			l = append(l, q)
		}
	}
	return l
}

// switched tells whether the node stands in the statements of a switch's case.
func (p path) switched() bool {
	return slices.ContainsFunc(p.about(), func(q path) bool {
		return q.is(api.NodeCase) && (q.node().Flag || p[len(q)].i > 0)
	})
}

// labels are those of the NodeLabels about the node.
func (p path) labels() []string {
	var l []string
	for _, q := range p.about() {
		if q.is(api.NodeLabel) {
			l = append(l, q.node().Str)
		}
	}
	return l
}

// own are a loop's labels.
func (p path) own() []string {
	var l []string
	for k := len(p) - 1; k > 0 && p[:k].is(api.NodeLabel); k-- {
		l = append(l, p[:k].node().Str)
	}
	return l
}

// target tells whether the node is what is assigned to.
func (p path) target() bool {
	if len(p) < 2 || p.place() > 0 {
		return false
	}
	x := p[len(p)-2].n
	steps := x.Op == "++" || x.Op == "--"
	return x.Kind == api.NodeAssign || (x.Kind == api.NodeUnary || x.Kind == api.NodePostfix) && steps || x.Kind == api.NodeForIn && p.node().Kind != api.NodeVar
}

// behind tells whether a sibling ahead, of one of these Kinds, has the node's key.
func (p path) behind(kinds ...int) bool {
	return slices.ContainsFunc(p.ahead(), func(x api.Node) bool {
		return x.Str == p.node().Str && slices.Contains(kinds, x.Kind)
	})
}

func (p path) restricted() bool {
	s := ustr.Encode(p.node().Str)
	return s == "eval" || s == "arguments"
}

// rule is a way to be wrong.
type rule struct {
	name string
	of   func(p path) bool
}

func rules() []rule {
	parameter := func(p path) bool { return p.is(api.NodeName) && p.under(api.NodeFunction, api.NodeDeclare) }
	return []rule{
		{"target", func(p path) bool {
			return p.target() && !p.is(api.NodeName, api.NodeMember, api.NodeIndex, api.NodeCall)
		}},
		{"restricted target", func(p path) bool { return p.target() && p.is(api.NodeName) && p.restricted() }},
		{"function", func(p path) bool { return p.is(api.NodeFunction) && p.restricted() }},
		{"declare", func(p path) bool { return p.is(api.NodeDeclare) && p.restricted() }},
		{"restricted parameter", func(p path) bool { return parameter(p) && p.restricted() }},
		{"parameter again", func(p path) bool { return parameter(p) && p.behind(api.NodeName) }},
		{"declarator", func(p path) bool { return p.is(api.NodeDeclarator) && p.restricted() }},
		{"catch", func(p path) bool { return p.is(api.NodeCatch) && p.restricted() }},
		{"delete", func(p path) bool {
			return p.is(api.NodeUnary) && p.node().Op == "delete" && p.node().Kids[0].Kind == api.NodeName
		}},
		{"property", func(p path) bool {
			return p.is(api.NodeProperty) && p.behind(api.NodeProperty, api.NodeGetter, api.NodeSetter)
		}},
		{"getter", func(p path) bool { return p.is(api.NodeGetter) && p.behind(api.NodeProperty, api.NodeGetter) }},
		{"setter", func(p path) bool { return p.is(api.NodeSetter) && p.behind(api.NodeProperty, api.NodeSetter) }},
		{"label", func(p path) bool { return p.is(api.NodeLabel) && slices.Contains(p.labels(), p.node().Str) }},
		{"break with label", func(p path) bool {
			return p.is(api.NodeBreak) && p.node().Str != "" && !slices.Contains(p.labels(), p.node().Str)
		}},
		{"break", func(p path) bool {
			return p.is(api.NodeBreak) && p.node().Str == "" && len(p.loops()) == 0 && !p.switched()
		}},
		{"continue with label", func(p path) bool {
			return p.is(api.NodeContinue) && p.node().Str != "" && !slices.ContainsFunc(p.loops(), func(q path) bool {
				return slices.Contains(q.own(), p.node().Str)
			})
		}},
		{"continue", func(p path) bool { return p.is(api.NodeContinue) && p.node().Str == "" && len(p.loops()) == 0 }},
		{"return", func(p path) bool { return p.is(api.NodeReturn) && !p.inFunction() }},
	}
}

// firstWrong is the number of the first wrong node of a tree, and the name of what is
// wrong; -1, if there is none.
func firstWrong(n *api.Node, all []rule) (int, string) {
	for i, p := range paths(n) {
		for _, r := range all {
			if r.of(p) {
				return i, r.name
			}
		}
	}
	return -1, ""
}

// declared are the names of a body, by where its declarations stand.
func declared(n *api.Node) []string {
	if n.Kind == api.NodeFunction || n.Kind == api.NodeDeclare {
		n = &n.Kids[len(n.Kids)-1]
	}
	var l []string
	for _, kind := range []int{api.NodeDeclare, api.NodeDeclarator} {
		for _, p := range paths(n) {
			if p.is(kind) && !p.inFunction() && !slices.Contains(l, p.node().Str) {
				l = append(l, p.node().Str)
			}
		}
	}
	return l
}
