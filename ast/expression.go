package ast

import (
	"math"

	"quill/api"
	"quill/numtext"
	"quill/ustr"
)

func (p *printer) this(api.Node) { p.write("this") }

func (p *printer) null(api.Node) { p.write("null") }

func (p *printer) hole(api.Node) {}

func (p *printer) name(n api.Node) { p.spell(n.Str) }

func (p *printer) text(n api.Node) { p.quote(n.Str) }

func (p *printer) truth(n api.Node) {
	if n.Flag {
		p.write("true")
	} else {
		p.write("false")
	}
}

// number writes a number, an infinite one as a literal that is too great.
func (p *printer) number(n api.Node) {
	if math.IsInf(n.Num, 1) {
		p.write("1e999")
	} else {
		p.write(ustr.Encode(numtext.Text(n.Num)))
	}
}

// array writes an array: behind a hole at its end the comma that makes it one.
func (p *printer) array(n api.Node) {
	p.within("[", "]", func() {
		p.list(n.Kids)
		if k := len(n.Kids); k > 0 && n.Kids[k-1].Kind == api.NodeHole {
			p.write(",")
		}
	})
}

func (p *printer) object(n api.Node) {
	p.within("{", "}", func() { p.list(n.Kids) })
}

func (p *printer) property(n api.Node) {
	p.quote(n.Str)
	p.write(": ")
	p.at(n.Kids[0], levelAssign)
}

func (p *printer) getter(n api.Node) { p.accessor("get ", n) }

func (p *printer) setter(n api.Node) { p.accessor("set ", n) }

func (p *printer) accessor(word string, n api.Node) {
	p.write(word)
	p.quote(n.Str)
	p.code(n.Kids[0])
}

func (p *printer) function(n api.Node) {
	p.write("function")
	if n.Str != "" {
		p.write(" ")
		p.spell(n.Str)
	}
	p.code(n)
}

// code writes a function's parameters and its body.
func (p *printer) code(n api.Node) {
	k := len(n.Kids) - 1
	p.arguments(n.Kids[:k])
	p.braced(" ", n.Kids[k])
}

// arguments writes a list within parentheses.
func (p *printer) arguments(l []api.Node) {
	p.within("(", ")", func() { p.list(l) })
}

// member writes a member: behind a number a point would be the number's.
func (p *printer) member(n api.Node) {
	if n.Kids[0].Kind == api.NodeNumber {
		p.within("(", ")", func() { p.node(n.Kids[0]) })
	} else {
		p.at(n.Kids[0], levelCall)
	}
	p.write(".")
	p.spell(n.Str)
}

func (p *printer) index(n api.Node) {
	p.at(n.Kids[0], levelCall)
	p.within("[", "]", func() { p.at(n.Kids[1], levelComma) })
}

func (p *printer) construct(n api.Node) {
	p.write("new ")
	p.at(n.Kids[0], levelNew)
	p.arguments(n.Kids[1:])
}

func (p *printer) call(n api.Node) {
	p.at(n.Kids[0], levelCall)
	p.arguments(n.Kids[1:])
}

// unary writes an operator ahead of its operand, with a blank between, where it would
// grow together with what comes: of all that stand at this level as they are, unary
// ones alone begin with an operator's sign.
func (p *printer) unary(n api.Node) {
	end, x := n.Op[len(n.Op)-1], n.Kids[0]
	p.write(n.Op)
	if 'a' <= end && end <= 'z' || x.Kind == api.NodeUnary && x.Op[0] == end {
		p.write(" ")
	}
	p.at(x, levelUnary)
}

func (p *printer) postfix(n api.Node) {
	p.at(n.Kids[0], levelCall)
	p.write(n.Op)
}

func (p *printer) binary(n api.Node) {
	p.at(n.Kids[0], level(n))
	p.write(" " + n.Op + " ")
	p.at(n.Kids[1], level(n)+1)
}

func (p *printer) conditional(n api.Node) {
	p.at(n.Kids[0], levelOr)
	p.within(" ? ", " : ", func() { p.at(n.Kids[1], levelAssign) })
	p.at(n.Kids[2], levelAssign)
}

func (p *printer) assign(n api.Node) {
	p.at(n.Kids[0], levelCall)
	p.write(" " + n.Op + " ")
	p.at(n.Kids[1], levelAssign)
}

func (p *printer) comma(n api.Node) {
	p.at(n.Kids[0], levelComma)
	p.write(", ")
	p.at(n.Kids[1], levelAssign)
}
