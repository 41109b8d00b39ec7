package parser_test

import (
	"strconv"
	"strings"
	"testing"

	"quill/api"
	"quill/ast"
	"quill/numtext"
	"quill/parser"
	"quill/ustr"
)

// kindNames are the words by which told tells of Kinds.
func kindNames() map[int]string {
	return map[int]string{
		api.NodeThis: "this", api.NodeName: "name", api.NodeNull: "null", api.NodeBool: "bool", api.NodeNumber: "number",
		api.NodeString: "string", api.NodeArray: "array", api.NodeHole: "hole", api.NodeObject: "object", api.NodeProperty: "property",
		api.NodeGetter: "getter", api.NodeSetter: "setter", api.NodeFunction: "function", api.NodeMember: "member", api.NodeIndex: "index",
		api.NodeNew: "new", api.NodeCall: "call", api.NodeUnary: "unary", api.NodePostfix: "postfix", api.NodeBinary: "binary",
		api.NodeLogical: "logical", api.NodeConditional: "conditional", api.NodeAssign: "assign", api.NodeComma: "comma",
		api.NodeProgram: "program", api.NodeBody: "body", api.NodeDeclare: "declare", api.NodeBlock: "block", api.NodeVar: "var",
		api.NodeDeclarator: "declarator", api.NodeEmpty: "empty", api.NodeExpr: "expr", api.NodeIf: "if", api.NodeDo: "do",
		api.NodeWhile: "while", api.NodeFor: "for", api.NodeForIn: "forin", api.NodeContinue: "continue", api.NodeBreak: "break",
		api.NodeReturn: "return", api.NodeLabel: "label", api.NodeSwitch: "switch", api.NodeCase: "case", api.NodeThrow: "throw",
		api.NodeTry: "try", api.NodeCatch: "catch", api.NodeDebugger: "debugger",
	}
}

// told is a tree in signs: of each node its Kind, its place, its other parts, and
// its Kids within parentheses.
func told(n api.Node) string {
	return new(teller{kindNames()}).tell(n)
}

type teller struct{ kinds map[int]string }

func (x *teller) tell(n api.Node) string {
	s := x.kinds[n.Kind] + strconv.Itoa(n.Pos)
	if n.Op != "" {
		s += ":" + n.Op
	}
	if n.Str != "" {
		s += ":" + ustr.Encode(n.Str)
	}
	if n.Kind == api.NodeNumber || n.Num != 0 {
		s += ":" + ustr.Encode(numtext.Text(n.Num))
	}
	if n.Flag {
		s += ":true"
	}
	if len(n.Kids) == 0 {
		return s
	}
	var l []string
	for _, kid := range n.Kids {
		l = append(l, x.tell(kid))
	}
	return s + "(" + strings.Join(l, " ") + ")"
}

// text is a test's source as a text.
func text(t *testing.T, src string) string {
	t.Helper()
	s, place, errno := ustr.Decode(src)
	if errno != api.OK {
		t.Fatalf("%q is no UTF-8 at %d", src, place)
	}
	return s
}

// call is Parse or Expression.
type call func(src string, depth int) (api.Node, int, api.Errno)

// reads holds a source to be read as a tree, told in signs.
func reads(t *testing.T, f call, src, want string) {
	t.Helper()
	n, place, errno := f(text(t, src), api.MaxDepth)
	if errno != api.OK || place != 0 {
		t.Errorf("%q: error %d at %d", src, errno, place)
	} else if s := told(n); s != want {
		t.Errorf("%q:\n%s, not\n%s", src, s, want)
	}
}

// prints holds a program to be read as the tree of a canonical text.
func prints(t *testing.T, src, want string) {
	t.Helper()
	n, place, errno := parser.Parse(text(t, src), api.MaxDepth)
	if errno != api.OK || place != 0 {
		t.Errorf("%q: error %d at %d", src, errno, place)
		return
	}
	if s, _ := ast.Print(n); ustr.Encode(s) != want {
		t.Errorf("%q: %q, not %q", src, ustr.Encode(s), want)
	}
}

// refuses holds a text to be told as an error, beside which there is no tree.
func refuses(t *testing.T, f call, s string, depth, place int, want api.Errno) {
	t.Helper()
	n, i, errno := f(s, depth)
	if errno != want || i != place || !zero(n) {
		t.Errorf("%q under %d: error %d at %d, not %d at %d; %s", short(s), depth, errno, i, want, place, told(n))
	}
}

// zero tells whether a node is the zero value.
func zero(n api.Node) bool {
	return ast.Same(n, api.Node{}) && n.Pos == 0
}

// short is a text's beginning, for what a test says.
func short(s string) string { return ustr.Encode(ustr.Slice(s, 0, 200)) }

// alike tells whether trees are the same, places too.
func alike(a, b api.Node) bool {
	if a.Pos != b.Pos || len(a.Kids) != len(b.Kids) {
		return false
	}
	for i, x := range a.Kids {
		if !alike(x, b.Kids[i]) {
			return false
		}
	}
	a.Kids, b.Kids = nil, nil
	return ast.Same(a, b)
}

// draws is a row of numbers, the same in each run.
func draws() func() int {
	x := uint64(23)
	return func() int {
		x = x*6364136223846793005 + 1442695040888963407
		return int(x >> 33)
	}
}
