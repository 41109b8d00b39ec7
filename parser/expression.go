package parser

import "quill/api"

// alone is an expression that is all of the source.
func (p *parser) alone() *api.Node {
	n := p.expression(true)
	if !p.is(api.TokenEnd) {
		p.refuse()
	}
	return n
}

// expression is one with its commas; in tells whether an `in` is an operator there,
// here and in all that take it.
func (p *parser) expression(in bool) *api.Node {
	pos := p.pos()
	n := p.assignment(in)
	for p.take(",") {
		n = node(api.NodeComma, pos, n, p.assignment(in))
	}
	return n
}

// assignment is an expression without commas.
func (p *parser) assignment(in bool) *api.Node {
	pos := p.pos()
	n := p.binary(in, 1)
	switch {
	case p.sign == "?":
		return p.conditional(n, pos, in)
	case assigns(p.sign):
		return p.assign(n, pos, in)
	}
	return n
}

// conditional is the one of which the test is read. In its middle an `in` is an
// operator always.
func (p *parser) conditional(test *api.Node, pos int, in bool) *api.Node {
	p.expect("?")
	yes := p.assignment(true)
	p.expect(":")
	return node(api.NodeConditional, pos, test, yes, p.assignment(in))
}

// assign is the assignment of which the target is read.
func (p *parser) assign(target *api.Node, pos int, in bool) *api.Node {
	side(target, p.pos())
	op := p.operator()
	return operated(api.NodeAssign, pos, op, target, p.assignment(in))
}

// binary is an expression of operators of two that are of a level or above.
func (p *parser) binary(in bool, least int) *api.Node {
	pos := p.pos()
	n := p.unary()
	for {
		level := levelOf(p.sign)
		if level < least || p.sign == "in" && !in {
			return n
		}
		kind := api.NodeBinary
		if level <= levelAnd {
			kind = api.NodeLogical
		}
		op := p.operator()
		n = operated(kind, pos, op, n, p.binary(in, level+1))
	}
}

// unary is an operand with the operators of one that stand about it.
func (p *parser) unary() *api.Node {
	if leads(p.sign) {
		return p.prefix()
	}
	pos := p.pos()
	n := p.operand(true)
	if !steps(p.sign) || p.newline() {
		return n
	}
	side(n, p.pos())
	return operated(api.NodePostfix, pos, p.operator(), n)
}

// prefix is an operator with the operand behind it.
func (p *parser) prefix() *api.Node {
	pos, op := p.pos(), p.operator()
	n := p.unary()
	if steps(op) {
		side(n, pos)
	}
	return operated(api.NodeUnary, pos, op, n)
}

// operand is a primary expression with its members and calls; without calls, if the
// next arguments are those of a `new` ahead.
func (p *parser) operand(calls bool) *api.Node {
	pos := p.pos()
	n := p.primary()
	for {
		switch {
		case p.sign == ".":
			n = p.member(n, pos)
		case p.sign == "[":
			n = p.index(n, pos)
		case p.sign == "(" && calls:
			n = p.arguments(node(api.NodeCall, pos, n))
		default:
			return n
		}
	}
}

// construct is a `new`, with its arguments, if it has any.
func (p *parser) construct() *api.Node {
	n := node(api.NodeNew, p.expect("new"))
	n.Kids = append(n.Kids, *p.operand(false))
	if p.sign == "(" {
		return p.arguments(n)
	}
	return n
}

// member is a member by its name, reserved or not, of the object that is read.
func (p *parser) member(object *api.Node, pos int) *api.Node {
	p.expect(".")
	if !p.is(api.TokenName) && !p.is(api.TokenWord) {
		p.refuse()
	}
	n := node(api.NodeMember, pos, object)
	n.Str = p.next().Text
	return n
}

// index is a member by an expression, of the object that is read.
func (p *parser) index(object *api.Node, pos int) *api.Node {
	p.expect("[")
	key := p.expression(true)
	p.expect("]")
	return node(api.NodeIndex, pos, object, key)
}

// arguments is a node with the arguments that come, behind what is called.
func (p *parser) arguments(n *api.Node) *api.Node {
	p.expect("(")
	if p.take(")") {
		return n
	}
	n.Kids = append(n.Kids, *p.assignment(true))
	for p.take(",") {
		n.Kids = append(n.Kids, *p.assignment(true))
	}
	p.expect(")")
	return n
}
