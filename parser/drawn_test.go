package parser_test

import (
	"math"
	"strings"

	"quill/api"
	"quill/ustr"
)

// drawer draws trees that may be.
type drawer struct {
	draw func() int
}

func node(kind int, kids ...api.Node) api.Node { return api.Node{Kind: kind, Kids: kids} }

func named(kind int, s string, kids ...api.Node) api.Node {
	return api.Node{Kind: kind, Str: ustr.Wide(s), Kids: kids}
}

func operated(kind int, op string, kids ...api.Node) api.Node {
	return api.Node{Kind: kind, Op: op, Kids: kids}
}

// one is one of some words.
func (d drawer) one(words string) string {
	l := strings.Fields(words)
	return l[d.draw()%len(l)]
}

// some is up to so many nodes.
func (d drawer) some(most int, f func() api.Node) []api.Node {
	var l []api.Node
	for range d.draw() % (most + 1) {
		l = append(l, f())
	}
	return l
}

func (d drawer) name() string { return d.one("a b c x get set functions ins of $ _1 e9 eval \xE9") }

func (d drawer) key() string {
	l := []string{"", "a", "\"\\", "\n", "use strict", "{", "\xE9", "if", "get", "set", "1", "16", "1.5", "1e+21", "0", "'", "true"}
	return l[d.draw()%len(l)]
}

func (d drawer) number() api.Node {
	l := []float64{0, 1, 0.5, 10, 1e21, 1e-7, 123456789, math.Inf(1), math.MaxFloat64, 5e-324}
	return api.Node{Kind: api.NodeNumber, Num: l[d.draw()%len(l)]}
}

// small is an expression without parts.
func (d drawer) small() api.Node {
	switch d.draw() % 12 {
	case 0:
		return node(api.NodeThis)
	case 1:
		return node(api.NodeNull)
	case 2:
		return api.Node{Kind: api.NodeBool, Flag: d.draw()%2 == 0}
	case 3, 4:
		return d.number()
	case 5:
		return named(api.NodeString, d.key())
	case 6:
		return node(api.NodeArray)
	case 7:
		return node(api.NodeObject)
	case 8:
		return api.Node{Kind: api.NodeName, Str: ustr.Make([]uint16{'a', 0x3B1, 0xD800})}
	}
	return named(api.NodeName, d.name())
}

// left is a left side of at most so many levels.
func (d drawer) left(levels int) api.Node {
	if levels <= 1 {
		return d.small()
	}
	x := func() api.Node { return d.expression(levels - 1) }
	switch d.draw() % 10 {
	case 0, 1:
		return named(api.NodeMember, d.one("a if in function get null"), x())
	case 2, 3:
		return node(api.NodeIndex, x(), x())
	case 4, 5:
		return node(api.NodeNew, append([]api.Node{x()}, d.some(2, x)...)...)
	case 6, 7:
		return node(api.NodeCall, append([]api.Node{x()}, d.some(2, x)...)...)
	case 8:
		if d.draw()%2 == 0 {
			return d.function(api.NodeFunction, d.one("a x")[d.draw()%2:], levels)
		}
		return node(api.NodeArray, d.some(4, func() api.Node {
			if d.draw()%3 == 0 {
				return node(api.NodeHole)
			}
			return x()
		})...)
	}
	return node(api.NodeObject, d.some(3, func() api.Node { return d.property(levels - 1) })...)
}

func (d drawer) property(levels int) api.Node {
	switch d.draw() % 4 {
	case 0:
		return named(api.NodeGetter, d.key(), node(api.NodeFunction, d.body(levels-1)))
	case 1:
		return named(api.NodeSetter, d.key(), node(api.NodeFunction, named(api.NodeName, d.name()), d.body(levels-1)))
	}
	return named(api.NodeProperty, d.key(), d.expression(levels))
}

func (d drawer) function(kind int, s string, levels int) api.Node {
	n := named(kind, s, d.some(3, func() api.Node { return named(api.NodeName, d.name()) })...)
	n.Kids = append(n.Kids, d.body(levels-1))
	return n
}

func (d drawer) body(levels int) api.Node {
	return node(api.NodeBody, d.some(2, func() api.Node { return d.element(levels - 1) })...)
}

// element is a statement or a declaration.
func (d drawer) element(levels int) api.Node {
	if d.draw()%6 == 0 {
		return d.function(api.NodeDeclare, d.name(), levels)
	}
	return d.statement(levels)
}

// expression is one of at most so many levels.
func (d drawer) expression(levels int) api.Node {
	if levels <= 1 {
		return d.small()
	}
	x := func() api.Node { return d.expression(levels - 1) }
	switch d.draw() % 14 {
	case 0, 1:
		return operated(api.NodeUnary, d.one("delete void typeof + - ~ !"), x())
	case 2:
		return operated(api.NodeUnary, d.one("++ --"), d.left(levels-1))
	case 3:
		return operated(api.NodePostfix, d.one("++ --"), d.left(levels-1))
	case 4, 5:
		return operated(api.NodeBinary, d.one("* / % + - << >> >>> < > <= >= instanceof == != === !== & ^ |"), x(), x())
	case 6, 7:
		return operated(api.NodeBinary, "in", x(), x())
	case 8:
		return operated(api.NodeLogical, d.one("&& ||"), x(), x())
	case 9:
		return node(api.NodeConditional, x(), x(), x())
	case 10:
		return operated(api.NodeAssign, d.one("= *= /= %= += -= <<= >>= >>>= &= ^= |="), d.left(levels-1), x())
	case 11:
		return node(api.NodeComma, x(), x())
	}
	return d.left(levels)
}

// statement is one of at most so many levels.
func (d drawer) statement(levels int) api.Node {
	x := func() api.Node { return d.expression(levels - 1) }
	if levels <= 1 {
		return []api.Node{node(api.NodeEmpty), node(api.NodeDebugger), node(api.NodeBreak), named(api.NodeContinue, "a"), node(api.NodeReturn)}[d.draw()%5]
	}
	switch d.draw() % 8 {
	case 0, 1, 2:
		return node(api.NodeExpr, x())
	case 3:
		return d.variables(2, levels-1)
	case 4:
		return node(d.draw()%2*(api.NodeThrow-api.NodeReturn)+api.NodeReturn, x())
	}
	return d.nested(levels)
}

// variables is a NodeVar of up to so many names.
func (d drawer) variables(most, levels int) api.Node {
	one := func() api.Node {
		return named(api.NodeDeclarator, d.name(), d.some(1, func() api.Node { return d.expression(levels - 1) })...)
	}
	return node(api.NodeVar, append([]api.Node{one()}, d.some(most-1, one)...)...)
}

// nested is a statement with others in it.
func (d drawer) nested(levels int) api.Node {
	x := func() api.Node { return d.expression(levels - 1) }
	s := func() api.Node { return d.statement(levels - 1) }
	blocks := func() api.Node { return node(api.NodeBlock, d.some(2, s)...) }
	switch d.draw() % 10 {
	case 0:
		return blocks()
	case 1:
		return node(api.NodeIf, x(), s())
	case 2:
		inner := s()
		for open(inner) {
			inner = s()
		}
		return node(api.NodeIf, x(), inner, s())
	case 3:
		return node(api.NodeDo, s(), x())
	case 4:
		return node(api.NodeWhile, x(), s())
	case 5, 6:
		return d.loop(levels)
	case 7:
		return named(api.NodeLabel, d.name(), s())
	case 8:
		l := d.some(2, func() api.Node { return node(api.NodeCase, append([]api.Node{x()}, d.some(2, s)...)...) })
		if k := d.draw() % 4; k <= len(l) {
			x := api.Node{Kind: api.NodeCase, Flag: true, Kids: d.some(2, s)}
			l = append(l[:k:k], append([]api.Node{x}, l[k:]...)...)
		}
		return node(api.NodeSwitch, append([]api.Node{x()}, l...)...)
	}
	catch := named(api.NodeCatch, d.name(), blocks())
	return []api.Node{
		node(api.NodeTry, blocks(), catch, node(api.NodeEmpty)),
		node(api.NodeTry, blocks(), node(api.NodeEmpty), blocks()),
		node(api.NodeTry, blocks(), catch, blocks()),
	}[d.draw()%3]
}

// loop is a for of either kind.
func (d drawer) loop(levels int) api.Node {
	x := func() api.Node { return d.expression(levels - 1) }
	or := func(f func() api.Node) api.Node {
		if d.draw()%3 == 0 {
			return node(api.NodeEmpty)
		}
		return f()
	}
	if d.draw()%2 == 0 {
		first := or(x)
		if d.draw()%2 == 0 {
			first = d.variables(2, levels-1)
		}
		return node(api.NodeFor, first, or(x), or(x), d.statement(levels-1))
	}
	first := d.left(levels - 1)
	if d.draw()%2 == 0 {
		first = d.variables(1, levels-1)
	}
	return node(api.NodeForIn, first, x(), d.statement(levels-1))
}

// program is a tree that may be.
func (d drawer) program(levels int) api.Node {
	return node(api.NodeProgram, d.some(3, func() api.Node { return d.element(levels) })...)
}

// open tells whether a statement has an open end.
func open(n api.Node) bool {
	switch n.Kind {
	case api.NodeIf:
		return len(n.Kids) == 2 || open(n.Kids[2])
	case api.NodeWhile, api.NodeFor, api.NodeForIn, api.NodeLabel:
		return open(n.Kids[len(n.Kids)-1])
	}
	return false
}
