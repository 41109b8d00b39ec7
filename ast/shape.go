package ast

import (
	"math"
	"slices"

	"quill/api"
	"quill/lexer"
)

// test tells something of a node.
type test func(n api.Node) bool

// shape is what the nodes of a Kind have: for each part a test, or none, where
// that part is zero.
type shape struct {
	op, str, num, flag, kids test
}

// holds tells whether a node has this shape.
func (s shape) holds(n api.Node) bool {
	return part(s.op, n, n.Op == "") &&
		part(s.str, n, n.Str == "") &&
		part(s.num, n, math.Float64bits(n.Num) == 0) &&
		part(s.flag, n, !n.Flag) &&
		part(s.kids, n, len(n.Kids) == 0)
}

// part tells whether a node's part may be so, by its test, or because it is zero.
func part(t test, n api.Node, zero bool) bool {
	if t == nil {
		return zero
	}
	return t(n)
}

// shapes are those of all Kinds. (Kinds that are none stand among no node's Kids.)
func shapes() []shape {
	l := make([]shape, api.NodeDebugger+1)
	shapeOperands(l)
	shapeOperators(l)
	shapeSimple(l)
	shapeNested(l)
	return l
}

// shapeOperands gives a list the shapes of left sides, and of their parts.
func shapeOperands(l []shape) {
	call := shape{kids: first(expression, expression)}
	l[api.NodeName] = shape{str: name}
	l[api.NodeBool] = shape{flag: free}
	l[api.NodeNumber] = shape{num: amount}
	l[api.NodeString] = shape{str: text}
	l[api.NodeArray] = shape{kids: each(either(expression, is(api.NodeHole)))}
	l[api.NodeObject] = shape{kids: each(is(api.NodeProperty, api.NodeGetter, api.NodeSetter))}
	l[api.NodeProperty] = shape{str: text, kids: row(expression)}
	l[api.NodeGetter] = shape{str: text, kids: row(accessor(0))}
	l[api.NodeSetter] = shape{str: text, kids: row(accessor(1))}
	l[api.NodeFunction] = shape{str: either(unnamed, name), kids: last(is(api.NodeName), is(api.NodeBody))}
	l[api.NodeMember] = shape{str: member, kids: row(expression)}
	l[api.NodeIndex] = shape{kids: row(expression, expression)}
	l[api.NodeNew] = call
	l[api.NodeCall] = call
}

// shapeOperators gives a list the shapes of operators.
func shapeOperators(l []shape) {
	steps := either(not(op("++", "--")), row(leftSide))
	two := row(expression, expression)
	l[api.NodeUnary] = shape{
		op:   op("delete", "void", "typeof", "++", "--", "+", "-", "~", "!"),
		kids: both(row(expression), steps),
	}
	l[api.NodePostfix] = shape{op: op("++", "--"), kids: row(leftSide)}
	l[api.NodeBinary] = shape{
		op: op("*", "/", "%", "+", "-", "<<", ">>", ">>>", "<", ">", "<=", ">=",
			"instanceof", "in", "==", "!=", "===", "!==", "&", "^", "|"),
		kids: two,
	}
	l[api.NodeLogical] = shape{op: op("&&", "||"), kids: two}
	l[api.NodeConditional] = shape{kids: row(expression, expression, expression)}
	l[api.NodeAssign] = shape{
		op:   op("=", "*=", "/=", "%=", "+=", "-=", "<<=", ">>=", ">>>=", "&=", "^=", "|="),
		kids: row(leftSide, expression),
	}
	l[api.NodeComma] = shape{kids: two}
}

// shapeSimple gives a list the shapes of programs, of bodies, and of statements in
// which no statement stands.
func shapeSimple(l []shape) {
	code := shape{kids: each(either(statement, is(api.NodeDeclare)))}
	jump := shape{str: either(unnamed, name)}
	l[api.NodeProgram] = code
	l[api.NodeBody] = code
	l[api.NodeDeclare] = shape{str: name, kids: last(is(api.NodeName), is(api.NodeBody))}
	l[api.NodeVar] = shape{kids: first(is(api.NodeDeclarator), is(api.NodeDeclarator))}
	l[api.NodeDeclarator] = shape{str: name, kids: either(row(), row(expression))}
	l[api.NodeExpr] = shape{kids: row(expression)}
	l[api.NodeContinue] = jump
	l[api.NodeBreak] = jump
	l[api.NodeReturn] = shape{kids: either(row(), row(expression))}
	l[api.NodeThrow] = shape{kids: row(expression)}
}

// shapeNested gives a list the shapes of statements in which others stand.
func shapeNested(l []shape) {
	empty := is(api.NodeEmpty)
	maybe := either(expression, empty)
	block := is(api.NodeBlock)
	l[api.NodeBlock] = shape{kids: each(statement)}
	l[api.NodeIf] = shape{kids: either(row(expression, statement), row(expression, closed, statement))}
	l[api.NodeDo] = shape{kids: row(statement, expression)}
	l[api.NodeWhile] = shape{kids: row(expression, statement)}
	l[api.NodeFor] = shape{kids: row(either(maybe, is(api.NodeVar)), maybe, maybe, statement)}
	l[api.NodeForIn] = shape{kids: row(either(leftSide, oneVariable), expression, statement)}
	l[api.NodeLabel] = shape{str: name, kids: row(statement)}
	l[api.NodeSwitch] = shape{kids: both(first(expression, is(api.NodeCase)), oneDefault)}
	l[api.NodeCase] = shape{
		flag: free,
		kids: either(both(flagged, each(statement)), both(not(flagged), first(expression, statement))),
	}
	l[api.NodeTry] = shape{kids: both(
		row(block, either(is(api.NodeCatch), empty), either(block, empty)),
		not(row(block, empty, empty)),
	)}
	l[api.NodeCatch] = shape{str: name, kids: row(block)}
}

// is tells whether a node is of one of these Kinds.
func is(kinds ...int) test {
	return func(n api.Node) bool { return slices.Contains(kinds, n.Kind) }
}

// op tells whether a node's Op is one of these.
func op(ops ...string) test {
	return func(n api.Node) bool { return slices.Contains(ops, n.Op) }
}

// accessor tells whether a node is a function without a name, of as many parameters.
func accessor(parameters int) test {
	return func(n api.Node) bool {
		return n.Kind == api.NodeFunction && n.Str == "" && len(n.Kids) == parameters+1
	}
}

// either tells whether one of two tests holds.
func either(s, t test) test {
	return func(n api.Node) bool { return s(n) || t(n) }
}

// both tells whether two tests hold.
func both(s, t test) test {
	return func(n api.Node) bool { return s(n) && t(n) }
}

// not tells whether a test does not hold.
func not(t test) test {
	return func(n api.Node) bool { return !t(n) }
}

// row tells whether a node has just as many Kids, and a test holds of each.
func row(l ...test) test {
	return func(n api.Node) bool {
		if len(n.Kids) != len(l) {
			return false
		}
		for i, t := range l {
			if !t(n.Kids[i]) {
				return false
			}
		}
		return true
	}
}

// each tells whether a test holds of all Kids, if there are any.
func each(t test) test {
	return func(n api.Node) bool { return every(n.Kids, t) }
}

// first tells whether there is a first one of the Kids, and of what it and those
// behind it are tests hold.
func first(s, t test) test {
	return func(n api.Node) bool {
		return len(n.Kids) > 0 && s(n.Kids[0]) && every(n.Kids[1:], t)
	}
}

// last tells whether there is a last one of the Kids, and of those ahead of it and
// of it tests hold.
func last(s, t test) test {
	return func(n api.Node) bool {
		k := len(n.Kids) - 1
		return k >= 0 && every(n.Kids[:k], s) && t(n.Kids[k])
	}
}

// every tells whether a test holds of all nodes of a list.
func every(l []api.Node, t test) bool {
	return !slices.ContainsFunc(l, not(t))
}

// free holds of all nodes.
func free(api.Node) bool { return true }

// flagged tells whether a node's Flag is set.
func flagged(n api.Node) bool { return n.Flag }

// unnamed tells whether a node has no name.
func unnamed(n api.Node) bool { return n.Str == "" }

// text tells whether a node's Str is a text, with nothing left over.
func text(n api.Node) bool { return len(n.Str)%2 == 0 }

// member tells whether a node's Str is a name, reserved or not.
func member(n api.Node) bool { return text(n) && lexer.Named(n.Str) }

// name tells whether a node's Str is a name that is not reserved.
func name(n api.Node) bool { return member(n) && !lexer.Reserved(n.Str) }

// amount tells whether a node's Num is such as a literal has: it has no sign.
func amount(n api.Node) bool { return !math.IsNaN(n.Num) && !math.Signbit(n.Num) }

// expression tells whether a node is one.
func expression(n api.Node) bool {
	switch n.Kind {
	case api.NodeHole, api.NodeProperty, api.NodeGetter, api.NodeSetter:
		return false
	}
	return api.NodeThis <= n.Kind && n.Kind <= api.NodeComma
}

// leftSide tells whether a node is an expression that may be assigned to.
func leftSide(n api.Node) bool { return expression(n) && n.Kind <= api.NodeCall }

// statement tells whether a node is one that may stand wherever statements do.
func statement(n api.Node) bool {
	switch n.Kind {
	case api.NodeDeclarator, api.NodeCase, api.NodeCatch:
		return false
	}
	return api.NodeBlock <= n.Kind && n.Kind <= api.NodeDebugger
}

// closed tells whether a node is a statement without an open end, which would take
// an else for its own.
func closed(n api.Node) bool {
	if !statement(n) {
		return false
	}
	for len(n.Kids) > 0 {
		switch n.Kind {
		case api.NodeIf:
			if len(n.Kids) == 2 {
				return false
			}
		case api.NodeWhile, api.NodeFor, api.NodeForIn, api.NodeLabel:
		default:
			return true
		}
		n = n.Kids[len(n.Kids)-1]
	}
	return true
}

// oneVariable tells whether a node is a NodeVar of one name.
func oneVariable(n api.Node) bool { return n.Kind == api.NodeVar && len(n.Kids) == 1 }

// oneDefault tells whether at most one case is the default.
func oneDefault(n api.Node) bool {
	count := 0
	for _, x := range n.Kids {
		if x.Kind == api.NodeCase && x.Flag {
			count++
		}
	}
	return count <= 1
}
