package parser

import (
	"quill/api"
	"quill/numtext"
)

// The names that make accessors of what comes behind them, as texts.
const (
	wordGet = "\x00g\x00e\x00t"
	wordSet = "\x00s\x00e\x00t"
)

// primary is what an operand begins with: a `new`, or what no operator makes.
func (p *parser) primary() *api.Node {
	switch p.sign {
	case "new":
		return p.construct()
	case "(":
		return p.inner()
	case "[":
		return p.array()
	case "{":
		return p.object()
	case "function":
		return p.function()
	}
	return p.literal()
}

// inner is the expression within parentheses.
func (p *parser) inner() *api.Node {
	p.expect("(")
	n := p.expression(true)
	p.expect(")")
	return n
}

// literal is a primary expression of one token.
func (p *parser) literal() *api.Node {
	switch p.rest[0].Kind {
	case api.TokenName:
		return p.name()
	case api.TokenString:
		return titled(api.NodeString, p.next())
	case api.TokenNumber:
		t := p.next()
		n := node(api.NodeNumber, t.Pos)
		n.Num = t.Num
		return n
	}
	return p.constant()
}

// constant is a primary expression of a word.
func (p *parser) constant() *api.Node {
	n := node(api.NodeBool, p.pos())
	switch p.sign {
	case "this":
		n.Kind = api.NodeThis
	case "null":
		n.Kind = api.NodeNull
	case "true":
		n.Flag = true
	case "false":
	default:
		p.refuse()
	}
	p.next()
	return n
}

// array is an array's literal. Of the commas those are holes that stand where an
// element may.
func (p *parser) array() *api.Node {
	n := node(api.NodeArray, p.expect("["))
	for p.sign != "]" {
		if p.sign == "," {
			n.Kids = append(n.Kids, *node(api.NodeHole, p.expect(",")))
			continue
		}
		n.Kids = append(n.Kids, *p.assignment(true))
		if !p.take(",") {
			break
		}
	}
	p.expect("]")
	return n
}

// object is an object's literal.
func (p *parser) object() *api.Node {
	n := node(api.NodeObject, p.expect("{"))
	for p.sign != "}" {
		n.Kids = append(n.Kids, *p.property())
		if !p.take(",") {
			break
		}
	}
	p.expect("}")
	return n
}

// property is one of an object's: an accessor, if a key comes behind a name that makes
// one.
func (p *parser) property() *api.Node {
	t := p.rest[0]
	n := node(api.NodeProperty, t.Pos)
	n.Str = p.key()
	if kind := accessor(t); kind != 0 && keyed(p.rest[0].Kind) {
		n.Kind, n.Str = kind, p.key()
		n.Kids = append(n.Kids, *p.access(kind))
		return n
	}
	p.expect(":")
	n.Kids = append(n.Kids, *p.assignment(true))
	return n
}

// accessor is the Kind of an accessor that a name makes of a key behind it, or 0.
func accessor(t api.Token) int {
	switch {
	case t.Kind != api.TokenName || t.Escaped:
		return 0
	case t.Text == wordGet:
		return api.NodeGetter
	case t.Text == wordSet:
		return api.NodeSetter
	}
	return 0
}

// keyed tells whether tokens of a Kind are keys.
func keyed(kind int) bool {
	switch kind {
	case api.TokenName, api.TokenWord, api.TokenNumber, api.TokenString:
		return true
	}
	return false
}

// key is a property's.
func (p *parser) key() string {
	if !keyed(p.rest[0].Kind) {
		p.refuse()
	}
	t := p.next()
	if t.Kind == api.TokenNumber {
		return numtext.Text(t.Num)
	}
	return t.Text
}
