package parser

import "quill/api"

// function is a function that is an expression.
func (p *parser) function() *api.Node {
	n := node(api.NodeFunction, p.expect("function"))
	if p.is(api.TokenName) {
		n.Str = p.next().Text
	}
	return p.code(n)
}

// declaration is a function that is declared.
func (p *parser) declaration() *api.Node {
	n := node(api.NodeDeclare, p.expect("function"))
	n.Str = p.named().Text
	return p.code(n)
}

// code is a function with the parameters and the body that come.
func (p *parser) code(n *api.Node) *api.Node {
	p.expect("(")
	if p.sign != ")" {
		n.Kids = append(n.Kids, *p.name())
		for p.take(",") {
			n.Kids = append(n.Kids, *p.name())
		}
	}
	p.expect(")")
	n.Kids = append(n.Kids, *p.body())
	return n
}

// access is an accessor's function.
func (p *parser) access(kind int) *api.Node {
	n := node(api.NodeFunction, p.expect("("))
	if kind == api.NodeSetter {
		n.Kids = append(n.Kids, *p.name())
	}
	p.expect(")")
	n.Kids = append(n.Kids, *p.body())
	return n
}

// name is a name that stands for itself.
func (p *parser) name() *api.Node { return titled(api.NodeName, p.named()) }

// body is a function's.
func (p *parser) body() *api.Node {
	n := node(api.NodeBody, p.expect("{"))
	for p.sign != "}" {
		n.Kids = append(n.Kids, *p.element())
	}
	p.expect("}")
	return n
}
