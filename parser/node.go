package parser

import (
	"slices"

	"quill/api"
)

// node is one with these Kids. What is read is told by pointers: as parentheses may
// stand in each other thousands of times, the frames of calls have to be small.
func node(kind, pos int, kids ...*api.Node) *api.Node {
	n := &api.Node{Kind: kind, Pos: pos}
	n.Kids = slices.Grow(n.Kids, len(kids))
	for _, x := range kids {
		n.Kids = append(n.Kids, *x)
	}
	return n
}

// operated is a node with an operator.
func operated(kind, pos int, op string, kids ...*api.Node) *api.Node {
	n := node(kind, pos, kids...)
	n.Op = op
	return n
}

// titled is a node that a token names and begins.
func titled(kind int, t api.Token) *api.Node {
	n := node(kind, t.Pos)
	n.Str = t.Text
	return n
}

// side refuses what stands at a place, if the expression that it is of may not be
// assigned to.
func side(n *api.Node, place int) {
	if n.Kind > api.NodeCall {
		refuse(place)
	}
}
