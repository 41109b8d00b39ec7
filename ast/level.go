package ast

import "quill/api"

// The levels of expressions that are asked for by name.
const (
	levelComma       = 0
	levelAssign      = 1
	levelConditional = 2
	levelOr          = 3
	levelAnd         = 4
	levelUnary       = 13
	levelPostfix     = 14
	levelCall        = 15
	levelNew         = 16
	levelOther       = 17
)

// level is an expression's.
func level(n api.Node) int {
	switch n.Kind {
	case api.NodeComma:
		return levelComma
	case api.NodeAssign:
		return levelAssign
	case api.NodeConditional:
		return levelConditional
	case api.NodeBinary, api.NodeLogical:
		return levelOf(n.Op)
	case api.NodeUnary:
		return levelUnary
	case api.NodePostfix:
		return levelPostfix
	case api.NodeCall:
		return levelCall
	case api.NodeMember, api.NodeIndex:
		if called(n) {
			return levelCall
		}
		return levelNew
	case api.NodeNew:
		return levelNew
	}
	return levelOther
}

// levelOf is the level of an operator of two.
func levelOf(op string) int {
	switch op {
	case "||":
		return levelOr
	case "&&":
		return levelAnd
	case "|":
		return 5
	case "^":
		return 6
	case "&":
		return 7
	case "==", "!=", "===", "!==":
		return 8
	case "<", ">", "<=", ">=", "instanceof", "in":
		return 9
	case "<<", ">>", ">>>":
		return 10
	case "+", "-":
		return 11
	}
	return 12
}

// called tells whether a member is one of what a call tells, directly or by members.
func called(n api.Node) bool {
	for n.Kind == api.NodeMember || n.Kind == api.NodeIndex {
		n = n.Kids[0]
	}
	return n.Kind == api.NodeCall
}

// reaches tells whether an expression is of a level or above. At level 15 a member
// is not asked for its own, so that long chains are not gone down at each link.
func reaches(n api.Node, least int) bool {
	if least <= levelCall && (n.Kind == api.NodeMember || n.Kind == api.NodeIndex) {
		return true
	}
	return level(n) >= least
}

// lead is the first part of an expression that begins with one, and the level at
// which it stands there; false, if the expression begins with a sign of its own.
func lead(n api.Node) (api.Node, int, bool) {
	switch n.Kind {
	case api.NodeMember, api.NodeIndex, api.NodeCall, api.NodePostfix, api.NodeAssign:
		return n.Kids[0], levelCall, true
	case api.NodeBinary, api.NodeLogical, api.NodeComma:
		return n.Kids[0], level(n), true
	case api.NodeConditional:
		return n.Kids[0], levelOr, true
	}
	return api.Node{}, 0, false
}

// bare tells whether an expression's text begins with that of an object or of a
// function, as that of no statement may.
func bare(n api.Node) bool {
	for {
		x, least, ok := lead(n)
		if !ok {
			return n.Kind == api.NodeObject || n.Kind == api.NodeFunction
		}
		if !reaches(x, least) {
			return false
		}
		n = x
	}
}
