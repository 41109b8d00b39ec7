package parser_test

import (
	"strings"
	"testing"

	"quill/api"
	"quill/ast"
	"quill/lexer"
	"quill/parser"
	"quill/ustr"
)

// seldom tells true once in so many draws.
func seldom(draw func() int, times int) func() bool {
	return func() bool { return draw()%times == 0 }
}

func never() bool { return false }

func always() bool { return true }

// Trees that are written in any of the ways that the grammar lets are read as they
// are, each node with its place.
func TestPa1TreesAndPlaces(t *testing.T) {
	d := drawer{draws()}
	units := 0
	for range 20000 {
		n := d.program(2 + d.draw()%6)
		src, want := written(d.draw, n, seldom(d.draw, 2))
		units += ustr.Len(src)
		got, place, errno := parser.Parse(src, api.MaxDepth)
		if errno != api.OK || place != 0 {
			t.Fatalf("%q: error %d at %d", short(src), errno, place)
		}
		if !alike(got, want) {
			t.Fatalf("%q:\n%s, not\n%s", short(src), told(got), told(want))
		}
	}
	if units < 1<<20 {
		t.Errorf("%d units in all", units)
	}
}

// again holds a tree's canonical text to be read as the same tree.
func again(t *testing.T, n api.Node) {
	t.Helper()
	s, errno := ast.Print(n)
	if errno != api.OK {
		t.Fatalf("%s: Print tells error %d", told(n), errno)
	}
	got, place, errno := parser.Parse(s, api.MaxDepth)
	if errno != api.OK || place != 0 || !ast.Same(n, got) {
		t.Errorf("%q: error %d at %d; %s, not %s", short(s), errno, place, told(got), told(n))
	}
	if r, _ := ast.Print(got); r != s {
		t.Errorf("%q: printed again %q", short(s), short(r))
	}
}

func TestPa3DrawnTrees(t *testing.T) {
	d := drawer{draws()}
	for range 5000 {
		again(t, d.program(2+d.draw()%6))
	}
}

// All expressions that are made of few parts, in each place where the text of one
// differs.
func TestPa3SmallExpressions(t *testing.T) {
	a, empty := named(api.NodeName, "a"), node(api.NodeEmpty)
	leaves := []api.Node{a, {Kind: api.NodeNumber, Num: 1}, node(api.NodeObject), node(api.NodeFunction, node(api.NodeBody))}
	made := [][]api.Node{leaves, grown(leaves, leaves)}
	made = append(made, grown(made[1], leaves[:1]))
	count := 0
	for _, l := range made {
		for _, x := range l {
			again(t, node(api.NodeProgram, node(api.NodeExpr, x)))
			if count++; count%2 > 0 {
				continue
			}
			variable := node(api.NodeVar, named(api.NodeDeclarator, "a", x))
			again(t, node(api.NodeProgram, node(api.NodeFor, x, empty, empty, empty), node(api.NodeFor, variable, x, x, empty), node(api.NodeForIn, variable, a, empty)))
			if x.Kind <= api.NodeCall {
				again(t, node(api.NodeProgram, node(api.NodeForIn, x, x, empty)))
			}
		}
	}
	if count < 5000 {
		t.Errorf("%d expressions", count)
	}
}

// grown are all expressions with a part from l, and further ones from the other list.
func grown(l, others []api.Node) []api.Node {
	var told []api.Node
	for _, x := range l {
		side := x.Kind <= api.NodeCall
		for _, op := range []string{"-", "+", "!", "void"} {
			told = append(told, operated(api.NodeUnary, op, x))
		}
		told = append(told, named(api.NodeMember, "a", x), node(api.NodeCall, x), node(api.NodeNew, x))
		if side {
			told = append(told, operated(api.NodeUnary, "--", x), operated(api.NodeUnary, "++", x), operated(api.NodePostfix, "--", x))
		}
		for _, y := range others {
			for _, op := range []string{"in", "-", "+", "*", "<", "|"} {
				told = append(told, operated(api.NodeBinary, op, x, y), operated(api.NodeBinary, op, y, x))
			}
			told = append(told, operated(api.NodeLogical, "||", x, y), operated(api.NodeLogical, "&&", y, x))
			for _, kind := range []int{api.NodeComma, api.NodeIndex, api.NodeCall, api.NodeNew} {
				told = append(told, node(kind, x, y), node(kind, y, x))
			}
			told = append(told, node(api.NodeConditional, x, y, y), node(api.NodeConditional, y, x, y), node(api.NodeConditional, y, y, x), operated(api.NodeAssign, "=", y, x))
			if side {
				told = append(told, operated(api.NodeAssign, "=", x, y))
			}
		}
		hole := node(api.NodeHole)
		told = append(told, node(api.NodeArray, x), node(api.NodeArray, hole, x), node(api.NodeArray, x, hole))
		told = append(told, node(api.NodeObject, named(api.NodeProperty, "a", x)), node(api.NodeFunction, node(api.NodeBody, node(api.NodeExpr, x))))
	}
	return told
}

// What is told may be, whatever was written.
func may(t *testing.T, n api.Node) {
	t.Helper()
	if n.Kind != api.NodeProgram {
		n = node(api.NodeProgram, node(api.NodeExpr, n))
	}
	if errno := ast.Check(n); errno != api.OK {
		t.Errorf("%s: Check tells error %d", told(n), errno)
	}
	again(t, n)
}

// Under each cap from a tree's Depth on the tree is told, and below it is too deep.
func TestPa4Caps(t *testing.T) {
	t.Parallel()
	d := drawer{draws()}
	for i := range 100 {
		src, want := written(d.draw, d.program(2+d.draw()%6), seldom(d.draw, 2))
		if i%4 == 0 {
			src, want = ustr.Wide(strings.Repeat("[", i/4*10)+strings.Repeat("]", i/4*10)), api.Node{}
			want, _, _ = parser.Parse(src, api.MaxDepth)
		}
		least := ast.Depth(want)
		for depth := 1; depth <= api.MaxDepth; depth++ {
			n, place, errno := parser.Parse(src, depth)
			if depth < least && (errno != api.ErrDeep || place != 0 || !zero(n)) || depth >= least && (errno != api.OK || place != 0 || !alike(n, want)) {
				t.Errorf("%q of Depth %d under %d: error %d at %d", short(src), least, depth, errno, place)
			}
		}
	}
}

// More white space and comments without line ends change places alone.
func TestPa4WhiteSpace(t *testing.T) {
	d := drawer{draws()}
	more := []string{" ", "\t", "\v\f", "\u00a0", "\ufeff", "/**/", "/* a */", "/* ; */ ", "  /*/*/", "\u3000"}
	for range 2000 {
		src, want := written(d.draw, d.program(2+d.draw()%5), seldom(d.draw, 2))
		l, _, _ := lexer.All(src)
		var b strings.Builder
		at := 0
		for _, x := range l {
			b.WriteString(ustr.Slice(src, at, x.Pos))
			for range d.draw() % 3 {
				b.WriteString(text(t, " "+more[d.draw()%len(more)]+" "))
			}
			at = x.Pos
		}
		b.WriteString(ustr.Slice(src, at, ustr.Len(src)))
		n, place, errno := parser.Parse(b.String(), api.MaxDepth)
		if errno != api.OK || place != 0 || !ast.Same(n, want) {
			t.Errorf("%q, for %q: error %d at %d", short(b.String()), short(src), errno, place)
		}
	}
}

// Of what can't be read the place moves with its token.
func TestPa4WhiteSpaceRefused(t *testing.T) {
	for _, s := range []string{"a ¦b", "if (a) ¦else b", "f(a, ¦)", "¦++ a ++", "for (a + b ¦in c) ;", "throw\n¦a", "{ a ¦", "a ++ ¦++", "do ; while ( 0 ) ¦a"} {
		for _, gap := range []string{"  ", "\t/* a */ ", " /**/\u00a0"} {
			refused(t, parser.Parse, strings.ReplaceAll(s, " ", gap))
		}
	}
}

// A semicolon that is inserted may be written.
func TestPa5(t *testing.T) {
	d := drawer{draws()}
	left := 0
	for range 5000 {
		w := &writer{draw: d.draw}
		n := d.program(2 + d.draw()%5)
		w.statements(n.Kids)
		long, _ := w.lay(never)
		short, places := w.lay(always)
		a, _, first := parser.Parse(long, api.MaxDepth)
		b, _, second := parser.Parse(short, api.MaxDepth)
		if first != api.OK || second != api.OK || !ast.Same(a, b) || !ast.Same(a, n) {
			t.Errorf("%q, %q: errors %d, %d", ustr.Encode(long), ustr.Encode(short), first, second)
		}
		for _, x := range places {
			if x < 0 {
				left++
			}
		}
	}
	if left < 3000 {
		t.Errorf("%d semicolons left out", left)
	}
}
