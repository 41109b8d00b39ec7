package parser

import "quill/api"

// starts are the statements' methods by their first words; a function is declared
// among elements alone.
func starts() map[string]func(p *parser) *api.Node {
	return map[string]func(p *parser) *api.Node{
		"{":        (*parser).block,
		";":        (*parser).empty,
		"var":      (*parser).variables,
		"if":       (*parser).choice,
		"do":       (*parser).do,
		"while":    (*parser).while,
		"for":      (*parser).loop,
		"continue": (*parser).continues,
		"break":    (*parser).breaks,
		"return":   (*parser).returns,
		"switch":   (*parser).cases,
		"throw":    (*parser).throw,
		"try":      (*parser).try,
		"debugger": (*parser).debugger,
		"function": (*parser).undeclared,
	}
}

// program is all of a source.
func (p *parser) program() *api.Node {
	n := node(api.NodeProgram, 0)
	for !p.is(api.TokenEnd) {
		n.Kids = append(n.Kids, *p.element())
	}
	return n
}

// element is a statement or a declaration.
func (p *parser) element() *api.Node {
	if p.sign == "function" {
		return p.declaration()
	}
	return p.statement()
}

// statement is a statement, found by its first word; of those without one a label is
// told by the sign behind it.
func (p *parser) statement() *api.Node {
	if read, ok := p.starts[p.sign]; ok {
		return read(p)
	}
	if p.is(api.TokenName) && sign(p.rest[1]) == ":" {
		return p.label()
	}
	return p.plain()
}

// undeclared refuses a function where statements alone may stand.
func (p *parser) undeclared() *api.Node {
	p.refuse()
	return nil
}

func (p *parser) block() *api.Node {
	n := node(api.NodeBlock, p.expect("{"))
	for p.sign != "}" {
		n.Kids = append(n.Kids, *p.statement())
	}
	p.expect("}")
	return n
}

func (p *parser) empty() *api.Node { return node(api.NodeEmpty, p.expect(";")) }

// nothing is what stands for something left out: its place is that of what comes then.
func (p *parser) nothing() *api.Node { return node(api.NodeEmpty, p.pos()) }

func (p *parser) variables() *api.Node {
	n := p.declarators(true)
	p.end()
	return n
}

// declarators are variables without their semicolon; in tells whether an `in` is an
// operator in their values.
func (p *parser) declarators(in bool) *api.Node {
	n := node(api.NodeVar, p.expect("var"), p.declarator(in))
	for p.take(",") {
		n.Kids = append(n.Kids, *p.declarator(in))
	}
	return n
}

// declarator is a variable's name, with its value, if there is one.
func (p *parser) declarator(in bool) *api.Node {
	n := titled(api.NodeDeclarator, p.named())
	if p.take("=") {
		n.Kids = append(n.Kids, *p.assignment(in))
	}
	return n
}

// plain is an expression that is a statement.
func (p *parser) plain() *api.Node {
	n := node(api.NodeExpr, p.pos(), p.expression(true))
	p.end()
	return n
}

func (p *parser) label() *api.Node {
	n := titled(api.NodeLabel, p.named())
	p.expect(":")
	n.Kids = append(n.Kids, *p.statement())
	return n
}

// choice is an if: an else is the nearest one's that has none.
func (p *parser) choice() *api.Node {
	n := node(api.NodeIf, p.expect("if"), p.inner(), p.statement())
	if p.take("else") {
		n.Kids = append(n.Kids, *p.statement())
	}
	return n
}

func (p *parser) continues() *api.Node { return p.jump("continue", api.NodeContinue) }

func (p *parser) breaks() *api.Node { return p.jump("break", api.NodeBreak) }

// jump is a word with a label, if there is one on its line.
func (p *parser) jump(word string, kind int) *api.Node {
	n := node(kind, p.expect(word))
	if p.is(api.TokenName) && !p.newline() {
		n.Str = p.next().Text
	}
	p.end()
	return n
}

// returns is a return with its value, if there is one on its line.
func (p *parser) returns() *api.Node {
	n := node(api.NodeReturn, p.expect("return"))
	if !p.ended() {
		n.Kids = append(n.Kids, *p.expression(true))
	}
	p.end()
	return n
}

func (p *parser) throw() *api.Node {
	n := node(api.NodeThrow, p.expect("throw"))
	if p.newline() {
		p.refuse()
	}
	n.Kids = append(n.Kids, *p.expression(true))
	p.end()
	return n
}

func (p *parser) debugger() *api.Node {
	n := node(api.NodeDebugger, p.expect("debugger"))
	p.end()
	return n
}
