package ast_test

import (
	"strings"
	"testing"

	"quill/api"
	"quill/ast"
	"quill/lexer"
	"quill/ustr"
)

// Trees with the same text are the same: of all expressions that are made of few
// parts, in each place where the text of one differs.
func TestAs3OneTreeATextOfExpressions(t *testing.T) {
	a := name("a")
	leaves := []api.Node{a, number(1), node(api.NodeObject), function(api.NodeFunction, "")}
	made := [][]api.Node{leaves, grown(leaves, leaves)}
	made = append(made, grown(made[1], leaves))
	texts := map[string]api.Node{}
	for _, l := range made {
		for _, x := range l {
			one(t, texts, program(plain(x)))
			one(t, texts, program(node(api.NodeFor, x, empty(), empty(), empty())))
			one(t, texts, program(node(api.NodeFor, declarators(declarator("a", x)), empty(), empty(), empty())))
			one(t, texts, program(node(api.NodeForIn, declarators(declarator("a", x)), a, empty())))
			if x.Kind <= api.NodeCall {
				one(t, texts, program(node(api.NodeForIn, x, a, empty())))
			}
		}
	}
	if len(texts) < 50000 {
		t.Errorf("%d texts", len(texts))
	}
}

// grown are all expressions with a part from l, and further ones from the other list.
func grown(l, others []api.Node) []api.Node {
	var told []api.Node
	for _, x := range l {
		side := x.Kind <= api.NodeCall
		for _, op := range []string{"-", "+", "!", "void"} {
			told = append(told, unary(op, x))
		}
		told = append(told, member(x, "a"), call(x), construct(x))
		if side {
			told = append(told, unary("--", x), unary("++", x), postfix("--", x))
		}
		for _, y := range others {
			for _, op := range []string{"in", "-", "+", "*", "<", "|"} {
				told = append(told, binary(op, x, y), binary(op, y, x))
			}
			told = append(told, logical("||", x, y), logical("&&", y, x), comma(x, y), comma(y, x))
			told = append(told, index(x, y), index(y, x), call(x, y), call(y, x), construct(x, y), construct(y, x))
			told = append(told, choice(x, y, y), choice(y, x, y), choice(y, y, x), assign("=", y, x))
			if side {
				told = append(told, assign("=", x, y))
			}
		}
		told = append(told, node(api.NodeArray, x), node(api.NodeArray, hole(), x), node(api.NodeArray, x, hole()))
		told = append(told, node(api.NodeObject, named(api.NodeProperty, "a", x)), node(api.NodeFunction, body(plain(x))))
	}
	return told
}

// one holds a tree's text to be no other one's.
func one(t *testing.T, texts map[string]api.Node, n api.Node) {
	t.Helper()
	s, errno := ast.Print(n)
	if errno != api.OK {
		t.Fatalf("%s: error %d", seen(n), errno)
	}
	if m, ok := texts[s]; ok && !ast.Same(m, n) {
		t.Errorf("%q is of two trees", ustr.Encode(s))
	}
	texts[s] = n
}

func TestAs3OneTreeATextOfStatements(t *testing.T) {
	a := name("a")
	l := []api.Node{empty(), block(), plain(a), plain(node(api.NodeObject)), plain(function(api.NodeFunction, "f")), node(api.NodeReturn), leaf(api.NodeBreak), declarators(declarator("a"))}
	texts := map[string]api.Node{}
	for range 2 {
		below := l
		for i, x := range below {
			y := below[i*7%len(below)]
			l = append(l, block(x), block(x, y), node(api.NodeIf, a, x), node(api.NodeDo, x, a), node(api.NodeWhile, a, x),
				node(api.NodeFor, empty(), a, empty(), x), node(api.NodeForIn, a, a, x), named(api.NodeLabel, "a", x),
				node(api.NodeSwitch, a, oneCase(a, x)), node(api.NodeSwitch, a, defaults(x)), node(api.NodeSwitch, a, defaults(), oneCase(a, x)),
				node(api.NodeTry, block(x), empty(), block(y)), node(api.NodeTry, block(), named(api.NodeCatch, "a", block(x)), empty()),
				plain(node(api.NodeFunction, body(x, y))))
			for _, x := range below[:min(len(below), 60)] {
				if !open(x) {
					l = append(l, node(api.NodeIf, a, x, y))
				}
			}
		}
	}
	for i, x := range l {
		one(t, texts, program(x))
		one(t, texts, program(x, l[i*31%len(l)]))
		one(t, texts, program(named(api.NodeDeclare, "a", body(x))))
	}
	if len(texts) < 10000 {
		t.Errorf("%d texts", len(texts))
	}
}

// A canonical text is of ASCII, its tokens can be read, its marks of two stand in
// pairs, and it ends with a newline.
func TestAs3Tokens(t *testing.T) {
	d := drawer{draws()}
	pairs := strings.NewReplacer("()", "", "[]", "", "{}", "")
	for range 5000 {
		s, _ := ast.Print(d.program(2 + d.draw()%5))
		for _, u := range ustr.Units(s) {
			if u > 0x7E || u < 0x20 && u != '\n' {
				t.Errorf("%q", ustr.Encode(s))
			}
		}
		if s != "" && !strings.HasSuffix(ustr.Encode(s), "\n") {
			t.Errorf("%q", ustr.Encode(s))
		}
		l, _, errno := lexer.All(s)
		if errno != api.OK {
			t.Errorf("%q: error %d", ustr.Encode(s), errno)
		}
		marks := ""
		for _, x := range l {
			if x.Kind == api.TokenMark && strings.Contains("()[]{}", ustr.Encode(x.Text)) {
				marks += ustr.Encode(x.Text)
			}
		}
		for was := marks + "."; len(marks) < len(was); {
			was, marks = marks, pairs.Replace(marks)
		}
		if marks != "" {
			t.Errorf("%q: left are %q", ustr.Encode(s), marks)
		}
	}
}

// Trees that are the same have one text, one Depth, one Size; others have not one text.
func TestAs4(t *testing.T) {
	d := drawer{draws()}
	for range 5000 {
		n := d.program(2 + d.draw()%4)
		m, _ := d.changed(n)
		if !ast.Same(n, n) || !ast.Same(m, m) || ast.Same(n, m) != ast.Same(m, n) {
			t.Errorf("Same of %s and %s", seen(n), seen(m))
		}
		s, _ := ast.Print(n)
		r, errno := ast.Print(m)
		if errno == api.OK && (s == r) != ast.Same(n, m) {
			t.Errorf("%q and %q", ustr.Encode(s), ustr.Encode(r))
		}
		if ast.Same(n, m) && (ast.Check(n) != ast.Check(m) || ast.Depth(n) != ast.Depth(m) || ast.Size(n) != ast.Size(m)) {
			t.Errorf("%s and %s", seen(n), seen(m))
		}
	}
}
