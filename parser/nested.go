package parser

import "quill/api"

func (p *parser) do() *api.Node {
	n := node(api.NodeDo, p.expect("do"), p.statement())
	p.expect("while")
	n.Kids = append(n.Kids, *p.inner())
	p.end()
	return n
}

func (p *parser) while() *api.Node {
	return node(api.NodeWhile, p.expect("while"), p.inner(), p.statement())
}

// loop is a for of either kind: what comes behind its first part tells which.
func (p *parser) loop() *api.Node {
	pos := p.expect("for")
	p.expect("(")
	first := p.opening()
	if p.sign == "in" {
		return p.loopIn(first, pos)
	}
	p.expect(";")
	second := p.part(";")
	p.expect(";")
	third := p.part(")")
	p.expect(")")
	return node(api.NodeFor, pos, first, second, third, p.statement())
}

// loopIn is the for-in of which the first part is read.
func (p *parser) loopIn(first *api.Node, pos int) *api.Node {
	if first.Kind != api.NodeVar || len(first.Kids) > 1 {
		side(first, p.pos())
	}
	p.expect("in")
	object := p.expression(true)
	p.expect(")")
	return node(api.NodeForIn, pos, first, object, p.statement())
}

// opening is the first part of a for's head, in which an `in` is no operator.
func (p *parser) opening() *api.Node {
	switch p.sign {
	case ";":
		return p.nothing()
	case "var":
		return p.declarators(false)
	}
	return p.expression(false)
}

// part is an expression of a for's head, or nothing, if the sign behind it comes.
func (p *parser) part(behind string) *api.Node {
	if p.sign == behind {
		return p.nothing()
	}
	return p.expression(true)
}

// cases is a switch.
func (p *parser) cases() *api.Node {
	n := node(api.NodeSwitch, p.expect("switch"), p.inner())
	p.expect("{")
	defaults := false
	for p.sign != "}" {
		if defaults && p.sign == "default" {
			p.refuse()
		}
		x := p.oneCase()
		defaults = defaults || x.Flag
		n.Kids = append(n.Kids, *x)
	}
	p.expect("}")
	return n
}

// oneCase is one of a switch's, or its default.
func (p *parser) oneCase() *api.Node {
	n := node(api.NodeCase, p.pos())
	if n.Flag = p.take("default"); !n.Flag {
		p.expect("case")
		n.Kids = append(n.Kids, *p.expression(true))
	}
	p.expect(":")
	for p.sign != "case" && p.sign != "default" && p.sign != "}" {
		n.Kids = append(n.Kids, *p.statement())
	}
	return n
}

// try is a try: where its catch is left out, its finally must come.
func (p *parser) try() *api.Node {
	n := node(api.NodeTry, p.expect("try"), p.block())
	if p.sign == "catch" {
		n.Kids = append(n.Kids, *p.catch(), *p.finally())
		return n
	}
	if p.sign != "finally" {
		p.refuse()
	}
	n.Kids = append(n.Kids, *p.nothing(), *p.finally())
	return n
}

func (p *parser) catch() *api.Node {
	n := node(api.NodeCatch, p.expect("catch"))
	p.expect("(")
	n.Str = p.named().Text
	p.expect(")")
	n.Kids = append(n.Kids, *p.block())
	return n
}

// finally is a finally's block, or nothing, if there is none.
func (p *parser) finally() *api.Node {
	if p.take("finally") {
		return p.block()
	}
	return p.nothing()
}
