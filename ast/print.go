package ast

import (
	"strings"

	"quill/api"
	"quill/lexer"
	"quill/ustr"
)

// printer writes a tree that may be. What it writes is all of ASCII, so that its
// bytes are as many as the text's units.
type printer struct {
	b       strings.Builder
	long    bool // there is more than a text may have: nothing is written any more
	without bool // an `in` stands within parentheses here
	kinds   []func(n api.Node)
}

// newPrinter is a printer with its methods, each at its Kind's place.
func newPrinter() *printer {
	p := &printer{}
	p.kinds = make([]func(n api.Node), api.NodeDebugger+1)
	p.findExpressions()
	p.findStatements()
	return p
}

// findExpressions finds the methods of expressions, and of their parts.
func (p *printer) findExpressions() {
	p.kinds[api.NodeThis] = p.this
	p.kinds[api.NodeName] = p.name
	p.kinds[api.NodeNull] = p.null
	p.kinds[api.NodeBool] = p.truth
	p.kinds[api.NodeNumber] = p.number
	p.kinds[api.NodeString] = p.text
	p.kinds[api.NodeArray] = p.array
	p.kinds[api.NodeHole] = p.hole
	p.kinds[api.NodeObject] = p.object
	p.kinds[api.NodeProperty] = p.property
	p.kinds[api.NodeGetter] = p.getter
	p.kinds[api.NodeSetter] = p.setter
	p.kinds[api.NodeFunction] = p.function
	p.kinds[api.NodeMember] = p.member
	p.kinds[api.NodeIndex] = p.index
	p.kinds[api.NodeNew] = p.construct
	p.kinds[api.NodeCall] = p.call
	p.kinds[api.NodeUnary] = p.unary
	p.kinds[api.NodePostfix] = p.postfix
	p.kinds[api.NodeBinary] = p.binary
	p.kinds[api.NodeLogical] = p.binary
	p.kinds[api.NodeConditional] = p.conditional
	p.kinds[api.NodeAssign] = p.assign
	p.kinds[api.NodeComma] = p.comma
}

// room tells whether so many units more may be written.
func (p *printer) room(units int) bool {
	p.long = p.long || units > mostUnits-p.b.Len()
	return !p.long
}

// write writes signs.
func (p *printer) write(s string) {
	if p.room(len(s)) {
		p.b.WriteString(s)
	}
}

// node writes a node, as its Kind has it.
func (p *printer) node(n api.Node) {
	if !p.long {
		p.kinds[n.Kind](n)
	}
}

// at writes an expression at a level.
func (p *printer) at(n api.Node, least int) {
	if reaches(n, least) && !(p.without && n.Kind == api.NodeBinary && n.Op == "in") {
		p.node(n)
		return
	}
	p.within("(", ")", func() { p.node(n) })
}

// within writes what stands between two signs, where an `in` may stand as it is.
func (p *printer) within(left, right string, f func()) {
	without := p.without
	p.without = false
	p.write(left)
	f()
	p.write(right)
	p.without = without
}

// list writes elements at level 1.
func (p *printer) list(l []api.Node) {
	for i, x := range l {
		if i > 0 {
			p.write(", ")
		}
		p.at(x, levelAssign)
	}
}

// spell writes a name. (Its text has as many units at least.)
func (p *printer) spell(s string) {
	if p.room(ustr.Len(s)) {
		t, _ := lexer.Spell(s)
		p.write(ustr.Encode(t))
	}
}

// quote writes a string's literal. (Its text has as many units at least.)
func (p *printer) quote(s string) {
	if p.room(ustr.Len(s)) {
		p.write(ustr.Encode(lexer.Quote(s)))
	}
}
