package ast

import "quill/api"

// findStatements finds the methods of statements, and of their parts. (Bodies are
// written by the functions around them.)
func (p *printer) findStatements() {
	p.kinds[api.NodeProgram] = p.statements
	p.kinds[api.NodeDeclare] = p.declare
	p.kinds[api.NodeBlock] = p.block
	p.kinds[api.NodeVar] = p.variables
	p.kinds[api.NodeDeclarator] = p.declarator
	p.kinds[api.NodeEmpty] = p.empty
	p.kinds[api.NodeExpr] = p.plain
	p.kinds[api.NodeIf] = p.choice
	p.kinds[api.NodeDo] = p.do
	p.kinds[api.NodeWhile] = p.while
	p.kinds[api.NodeFor] = p.loop
	p.kinds[api.NodeForIn] = p.loopIn
	p.kinds[api.NodeContinue] = p.continues
	p.kinds[api.NodeBreak] = p.breaks
	p.kinds[api.NodeReturn] = p.returns
	p.kinds[api.NodeLabel] = p.label
	p.kinds[api.NodeSwitch] = p.cases
	p.kinds[api.NodeCase] = p.oneCase
	p.kinds[api.NodeThrow] = p.throw
	p.kinds[api.NodeTry] = p.try
	p.kinds[api.NodeCatch] = p.catch
	p.kinds[api.NodeDebugger] = p.debugger
}

// statements writes a node's Kids, which are statements.
func (p *printer) statements(n api.Node) {
	for _, x := range n.Kids {
		p.node(x)
	}
}

// braced writes a block's or a body's statements, with what stands ahead.
func (p *printer) braced(ahead string, n api.Node) {
	p.write(ahead)
	p.within("{\n", "}", func() { p.statements(n) })
}

// asked writes an expression within a statement's own parentheses.
func (p *printer) asked(word string, n api.Node) {
	p.write(word)
	p.within(" (", ")", func() { p.at(n, levelComma) })
}

func (p *printer) declare(n api.Node) {
	p.function(n)
	p.write("\n")
}

func (p *printer) block(n api.Node) {
	p.braced("", n)
	p.write("\n")
}

func (p *printer) variables(n api.Node) {
	p.declarators(n)
	p.write(";\n")
}

func (p *printer) declarators(n api.Node) {
	p.write("var ")
	p.list(n.Kids)
}

func (p *printer) declarator(n api.Node) {
	p.spell(n.Str)
	for _, x := range n.Kids {
		p.write(" = ")
		p.at(x, levelAssign)
	}
}

func (p *printer) empty(api.Node) { p.write(";\n") }

// plain writes an expression that is a statement: one that would begin as a block or
// as a declaration does stands within parentheses.
func (p *printer) plain(n api.Node) {
	if bare(n.Kids[0]) {
		p.within("(", ")", func() { p.at(n.Kids[0], levelComma) })
	} else {
		p.at(n.Kids[0], levelComma)
	}
	p.write(";\n")
}

func (p *printer) choice(n api.Node) {
	p.asked("if", n.Kids[0])
	p.write("\n")
	p.node(n.Kids[1])
	if len(n.Kids) == 3 {
		p.write("else\n")
		p.node(n.Kids[2])
	}
}

func (p *printer) do(n api.Node) {
	p.write("do\n")
	p.node(n.Kids[0])
	p.asked("while", n.Kids[1])
	p.write(";\n")
}

func (p *printer) while(n api.Node) {
	p.asked("while", n.Kids[0])
	p.write("\n")
	p.node(n.Kids[1])
}

func (p *printer) loop(n api.Node) {
	p.within("for (", ")\n", func() {
		p.opening(n.Kids[0], levelComma)
		p.write("; ")
		p.part(n.Kids[1], levelComma)
		p.write("; ")
		p.part(n.Kids[2], levelComma)
	})
	p.node(n.Kids[3])
}

func (p *printer) loopIn(n api.Node) {
	p.within("for (", ")\n", func() {
		p.opening(n.Kids[0], levelCall)
		p.write(" in ")
		p.at(n.Kids[1], levelComma)
	})
	p.node(n.Kids[2])
}

// opening writes the first part of a loop's head, in which a bare `in` would make it
// another loop.
func (p *printer) opening(n api.Node, least int) {
	p.without = true
	p.part(n, least)
	p.without = false
}

// part writes a part of a loop's head.
func (p *printer) part(n api.Node, least int) {
	switch n.Kind {
	case api.NodeEmpty:
	case api.NodeVar:
		p.declarators(n)
	default:
		p.at(n, least)
	}
}

func (p *printer) continues(n api.Node) { p.jump("continue", n) }

func (p *printer) breaks(n api.Node) { p.jump("break", n) }

func (p *printer) jump(word string, n api.Node) {
	p.write(word)
	if n.Str != "" {
		p.write(" ")
		p.spell(n.Str)
	}
	p.write(";\n")
}

func (p *printer) returns(n api.Node) { p.leave("return", n) }

func (p *printer) throw(n api.Node) { p.leave("throw", n) }

// leave writes a word, and the value behind it, if there is one.
func (p *printer) leave(word string, n api.Node) {
	p.write(word)
	for _, x := range n.Kids {
		p.write(" ")
		p.at(x, levelComma)
	}
	p.write(";\n")
}

func (p *printer) label(n api.Node) {
	p.spell(n.Str)
	p.write(":\n")
	p.node(n.Kids[0])
}

func (p *printer) cases(n api.Node) {
	p.asked("switch", n.Kids[0])
	p.write(" {\n")
	for _, x := range n.Kids[1:] {
		p.node(x)
	}
	p.write("}\n")
}

func (p *printer) oneCase(n api.Node) {
	rest := n.Kids
	if n.Flag {
		p.write("default")
	} else {
		p.write("case ")
		p.at(n.Kids[0], levelComma)
		rest = n.Kids[1:]
	}
	p.write(":\n")
	for _, x := range rest {
		p.node(x)
	}
}

func (p *printer) try(n api.Node) {
	p.braced("try ", n.Kids[0])
	if n.Kids[1].Kind == api.NodeCatch {
		p.node(n.Kids[1])
	}
	if n.Kids[2].Kind == api.NodeBlock {
		p.braced(" finally ", n.Kids[2])
	}
	p.write("\n")
}

func (p *printer) catch(n api.Node) {
	p.write(" catch (")
	p.spell(n.Str)
	p.write(") ")
	p.braced("", n.Kids[0])
}

func (p *printer) debugger(api.Node) { p.write("debugger;\n") }
