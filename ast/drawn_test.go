package ast_test

import (
	"math"
	"strings"

	"quill/api"
	"quill/ustr"
)

// draws is a row of numbers, the same in each run.
func draws() func() int {
	x := uint64(20)
	return func() int {
		x = x*6364136223846793005 + 1442695040888963407
		return int(x >> 33)
	}
}

// drawer draws trees that may be.
type drawer struct {
	draw func() int
}

// one is one of some words.
func (d drawer) one(words string) string {
	l := strings.Fields(words)
	return l[d.draw()%len(l)]
}

func (d drawer) name() string { return d.one("a b c x get set functions ins of $ _1 e9") }

// some is up to so many nodes.
func (d drawer) some(most int, f func() api.Node) []api.Node {
	var l []api.Node
	for range d.draw() % (most + 1) {
		l = append(l, f())
	}
	return l
}

func (d drawer) number() api.Node {
	l := []float64{0, 1, 0.5, 10, 1e21, 1e-7, 123456789, math.Inf(1), math.MaxFloat64, 5e-324}
	return number(l[d.draw()%len(l)])
}

func (d drawer) text() string {
	l := []string{"", "a", "\"\\", "\n", "use strict", "{", "é", "if"}
	return l[d.draw()%len(l)]
}

// small is an expression without parts.
func (d drawer) small() api.Node {
	switch d.draw() % 12 {
	case 0:
		return leaf(api.NodeThis)
	case 1:
		return leaf(api.NodeNull)
	case 2:
		return truth(d.draw()%2 == 0)
	case 3, 4:
		return d.number()
	case 5:
		return text(d.text())
	case 6:
		return leaf(api.NodeArray)
	case 7:
		return leaf(api.NodeObject)
	case 8:
		n := name("")
		n.Str = ustr.Make([]uint16{'a', 0xE9, 0xD800})
		return n
	}
	return name(d.name())
}

// left is a left side of at most so many levels.
func (d drawer) left(levels int) api.Node {
	if levels <= 1 {
		return d.small()
	}
	x := func() api.Node { return d.expression(levels - 1) }
	switch d.draw() % 10 {
	case 0, 1:
		return member(x(), d.one("a if in function get"))
	case 2, 3:
		return index(x(), x())
	case 4:
		return construct(append([]api.Node{x()}, d.some(2, x)...)...)
	case 5, 6:
		return call(append([]api.Node{x()}, d.some(2, x)...)...)
	case 7:
		return d.function(api.NodeFunction, d.one("a x")[d.draw()%2:], levels)
	case 8:
		return node(api.NodeArray, d.some(4, func() api.Node {
			if d.draw()%3 == 0 {
				return hole()
			}
			return x()
		})...)
	}
	return node(api.NodeObject, d.some(3, func() api.Node { return d.property(levels - 1) })...)
}

func (d drawer) property(levels int) api.Node {
	switch d.draw() % 4 {
	case 0:
		return named(api.NodeGetter, d.text(), d.accessor(levels))
	case 1:
		return named(api.NodeSetter, d.text(), d.accessor(levels, name(d.name())))
	}
	return named(api.NodeProperty, d.text(), d.expression(levels))
}

func (d drawer) accessor(levels int, parameters ...api.Node) api.Node {
	return node(api.NodeFunction, append(parameters, d.body(levels-1))...)
}

func (d drawer) function(kind int, s string, levels int) api.Node {
	n := named(kind, s, d.some(3, func() api.Node { return name(d.name()) })...)
	n.Kids = append(n.Kids, d.body(levels-1))
	return n
}

func (d drawer) body(levels int) api.Node {
	return body(d.some(2, func() api.Node { return d.element(levels - 1) })...)
}

// element is a statement or a declaration.
func (d drawer) element(levels int) api.Node {
	if d.draw()%6 == 0 {
		return d.function(api.NodeDeclare, d.name(), levels)
	}
	return d.statement(levels)
}

// expression is one of at most so many levels.
func (d drawer) expression(levels int) api.Node {
	if levels <= 1 {
		return d.small()
	}
	x := func() api.Node { return d.expression(levels - 1) }
	switch d.draw() % 14 {
	case 0, 1:
		return unary(d.one("delete void typeof + - ~ !"), x())
	case 2:
		return unary(d.one("++ --"), d.left(levels-1))
	case 3:
		return postfix(d.one("++ --"), d.left(levels-1))
	case 4, 5:
		return binary(d.one("* / % + - << >> >>> < > <= >= instanceof == != === !== & ^ |"), x(), x())
	case 6, 7:
		return binary("in", x(), x())
	case 8:
		return logical(d.one("&& ||"), x(), x())
	case 9:
		return choice(x(), x(), x())
	case 10:
		return assign(d.one("= *= /= %= += -= <<= >>= >>>= &= ^= |="), d.left(levels-1), x())
	case 11:
		return comma(x(), x())
	}
	return d.left(levels)
}

// statement is one of at most so many levels.
func (d drawer) statement(levels int) api.Node {
	x := func() api.Node { return d.expression(levels - 1) }
	if levels <= 1 {
		return []api.Node{empty(), leaf(api.NodeDebugger), leaf(api.NodeBreak), named(api.NodeContinue, "a"), leaf(api.NodeReturn)}[d.draw()%5]
	}
	switch d.draw() % 8 {
	case 0, 1, 2:
		return plain(x())
	case 3:
		return d.variables(2, levels-1)
	case 4:
		return node(d.draw()%2*(api.NodeThrow-api.NodeReturn)+api.NodeReturn, x())
	}
	return d.nested(levels)
}

// variables is a NodeVar of up to so many names.
func (d drawer) variables(most, levels int) api.Node {
	one := func() api.Node {
		return declarator(d.name(), d.some(1, func() api.Node { return d.expression(levels - 1) })...)
	}
	return declarators(append([]api.Node{one()}, d.some(most-1, one)...)...)
}

// nested is a statement with others in it.
func (d drawer) nested(levels int) api.Node {
	x := func() api.Node { return d.expression(levels - 1) }
	s := func() api.Node { return d.statement(levels - 1) }
	or := func(f func() api.Node) api.Node {
		if d.draw()%3 == 0 {
			return empty()
		}
		return f()
	}
	blocks := func() api.Node { return block(d.some(2, s)...) }
	switch d.draw() % 10 {
	case 0:
		return blocks()
	case 1:
		return node(api.NodeIf, x(), s())
	case 2:
		inner := s()
		for open(inner) {
			inner = s()
		}
		return node(api.NodeIf, x(), inner, s())
	case 3:
		return node(api.NodeDo, s(), x())
	case 4:
		return node(api.NodeWhile, x(), s())
	case 5:
		first := or(x)
		if d.draw()%2 == 0 {
			first = d.variables(2, levels-1)
		}
		return node(api.NodeFor, first, or(x), or(x), s())
	case 6:
		first := d.left(levels - 1)
		if d.draw()%2 == 0 {
			first = d.variables(1, levels-1)
		}
		return node(api.NodeForIn, first, x(), s())
	case 7:
		return named(api.NodeLabel, d.name(), s())
	case 8:
		l := d.some(2, func() api.Node { return oneCase(append([]api.Node{x()}, d.some(2, s)...)...) })
		if k := d.draw() % 4; k <= len(l) {
			l = append(l[:k:k], append([]api.Node{defaults(d.some(2, s)...)}, l[k:]...)...)
		}
		return node(api.NodeSwitch, append([]api.Node{x()}, l...)...)
	}
	catch := named(api.NodeCatch, d.name(), blocks())
	return []api.Node{
		node(api.NodeTry, blocks(), catch, empty()),
		node(api.NodeTry, blocks(), empty(), blocks()),
		node(api.NodeTry, blocks(), catch, blocks()),
	}[d.draw()%3]
}

// program is a tree that may be, with places.
func (d drawer) program(levels int) api.Node {
	n := program(d.some(3, func() api.Node { return d.element(levels) })...)
	each(&n, func(x *api.Node) { x.Pos = d.draw() % 1000 })
	return n
}

// each goes through a tree's nodes.
func each(n *api.Node, f func(n *api.Node)) {
	f(n)
	for i := range n.Kids {
		each(&n.Kids[i], f)
	}
}

// copied is a tree that shares nothing with another one.
func copied(n api.Node) api.Node {
	kids := make([]api.Node, len(n.Kids), len(n.Kids)+1)
	for i, x := range n.Kids {
		kids[i] = copied(x)
	}
	n.Kids = kids
	return n
}

// changed is a copy of a tree with a change at one node: often one that may be no
// more. It tells whether something beside a place was changed.
func (d drawer) changed(n api.Node) (api.Node, bool) {
	n = copied(n)
	var l []*api.Node
	each(&n, func(x *api.Node) { l = append(l, x) })
	x, y := l[d.draw()%len(l)], copied(*l[d.draw()%len(l)])
	was := copied(*x)
	switch d.draw() % 10 {
	case 0:
		x.Kind = d.draw() % 70
	case 1:
		x.Op = d.one("+ ++ - -- ! typeof in instanceof = += == && || | * ** => , [ ( ?")
	case 2:
		x.Str = []string{"", ustr.Wide("a"), ustr.Wide("if"), ustr.Wide("1"), "a", "\x00a\x00", ustr.Wide("x y")}[d.draw()%7]
	case 3:
		x.Num = []float64{0, math.Copysign(0, -1), 1, -1, math.NaN(), math.Inf(1), math.Inf(-1)}[d.draw()%7]
	case 4:
		x.Flag = !x.Flag
	case 5:
		x.Kids = x.Kids[:len(x.Kids)-min(1, len(x.Kids))]
	case 6:
		x.Kids = append(x.Kids, y)
	case 7:
		if len(x.Kids) > 0 {
			x.Kids[d.draw()%len(x.Kids)] = y
		}
	case 8:
		if k := len(x.Kids); k > 1 {
			x.Kids[0], x.Kids[k-1] = x.Kids[k-1], x.Kids[0]
		}
	case 9:
		x.Pos++
	}
	return n, !alike(was, *x)
}

// alike tells of two trees what Same tells.
func alike(a, b api.Node) bool {
	if a.Kind != b.Kind || a.Op != b.Op || a.Str != b.Str || math.Float64bits(a.Num) != math.Float64bits(b.Num) || a.Flag != b.Flag || len(a.Kids) != len(b.Kids) {
		return false
	}
	for i := range a.Kids {
		if !alike(a.Kids[i], b.Kids[i]) {
			return false
		}
	}
	return true
}
