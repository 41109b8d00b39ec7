package early

import "quill/api"

// about is what stands about a node, up to the function that the node is within.
type about struct {
	function bool // there is one
	loop     bool
	exit     bool // a loop or a switch: there is what a break may leave
	labels   map[string]owner
}

// owner is what a label is of.
type owner int

const (
	ofNothing owner = iota
	ofStatement
	ofLoop
)

// outside is what stands about a program.
func outside() about { return about{labels: map[string]owner{}} }

// inside is what stands about the parts of a function, whatever stands about that.
func inside() about { return about{function: true, labels: map[string]owner{}} }

// first is the first wrong node of a part of a tree; nil, if there is none.
func (a about) first(n *api.Node) *api.Node {
	if a.wrong(n) {
		return n
	}
	switch n.Kind {
	case api.NodeFunction, api.NodeDeclare:
		return inside().within(n)
	case api.NodeLabel:
		return a.labelled(n)
	case api.NodeSwitch:
		a.exit = true
	}
	if loops(n) {
		a.loop, a.exit = true, true
	}
	return a.within(n)
}

// within is the first wrong node among what a node has within. (A loop's and a switch's
// other parts are gone through like their statements, as no jump stands there but in
// functions.)
func (a about) within(n *api.Node) *api.Node {
	unfit := parts(n)
	for i := range n.Kids {
		x := &n.Kids[i]
		if unfit(i, x) {
			return x
		}
		if y := a.first(x); y != nil {
			return y
		}
	}
	return nil
}

// labelled is the first wrong node of a statement and of the labels that stand, one in
// the other, just about it. They are gone down at once: whether they are a loop's is
// told by what comes behind the last one.
func (a about) labelled(outer *api.Node) *api.Node {
	inner := outer
	for ; inner.Kind == api.NodeLabel; inner = &inner.Kids[0] {
		if a.labels[inner.Str] != ofNothing {
			return inner
		}
		a.labels[inner.Str] = ofStatement
	}
	if loops(inner) {
		for x := outer; x != inner; x = &x.Kids[0] {
			a.labels[x.Str] = ofLoop
		}
	}
	wrong := a.first(inner)
	for x := outer; x != inner; x = &x.Kids[0] {
		delete(a.labels, x.Str)
	}
	return wrong
}

// loops tells whether a statement is a loop.
func loops(n *api.Node) bool {
	switch n.Kind {
	case api.NodeDo, api.NodeWhile, api.NodeFor, api.NodeForIn:
		return true
	}
	return false
}

// wrong tells whether a node is wrong by itself, or by what stands about it.
func (a about) wrong(n *api.Node) bool {
	switch n.Kind {
	case api.NodeFunction, api.NodeDeclare, api.NodeDeclarator, api.NodeCatch:
		return restricted(n.Str)
	case api.NodeUnary:
		return n.Op == "delete" && n.Kids[0].Kind == api.NodeName
	case api.NodeBreak:
		return !a.breaks(n.Str)
	case api.NodeContinue:
		return !a.continues(n.Str)
	case api.NodeReturn:
		return !a.function
	}
	return false
}

// breaks tells whether there is what a break with this label, or without one, leaves.
func (a about) breaks(label string) bool {
	if label == "" {
		return a.exit
	}
	return a.labels[label] != ofNothing
}

// continues tells whether there is a loop that a continue with this label, or without
// one, goes on with.
func (a about) continues(label string) bool {
	if label == "" {
		return a.loop
	}
	return a.labels[label] == ofLoop
}
