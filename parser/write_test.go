package parser_test

import (
	"math"
	"strings"

	"quill/api"
	"quill/lexer"
	"quill/numtext"
	"quill/ustr"
)

// piece is a token that is written.
type piece struct {
	s    string // units
	stay bool   // no line may end ahead of it
	end  bool   // a semicolon that ends a statement
	any  bool   // and would be inserted ahead of all but a semicolon
}

// writer writes trees as tokens, in one of the many ways, and tells them with the
// tokens' numbers as places.
type writer struct {
	draw func() int
	l    []piece
}

// often tells true once in so many times.
func (w *writer) often(times int) bool { return w.draw()%times == 0 }

// put writes signs of ASCII.
func (w *writer) put(signs ...string) {
	for _, s := range signs {
		w.l = append(w.l, piece{s: ustr.Wide(s)})
	}
}

// end writes a statement's semicolon.
func (w *writer) end(any bool) {
	w.l = append(w.l, piece{s: ustr.Wide(";"), end: true, any: any})
}

// stay lets no line end ahead of the token of a number.
func (w *writer) stay(i int) { w.l[i].stay = true }

// name writes a name: as it is, or with escapes.
func (w *writer) name(s string) {
	switch w.draw() % 6 {
	case 0:
		s, _ = lexer.Spell(s)
	case 1:
		quoted := lexer.Quote(ustr.Make([]uint16{0xFFFF, ustr.Units(s)[0]}))
		first := ustr.Units(s)[0]
		if first < 0x80 {
			quoted = ustr.Wide(spelt(string(rune(first))))
		} else {
			quoted = ustr.Slice(quoted, 7, 13)
		}
		s = quoted + ustr.Slice(s, 1, ustr.Len(s))
	}
	w.l = append(w.l, piece{s: s})
}

// text writes a string.
func (w *writer) text(s string) {
	quoted := lexer.Quote(s)
	if w.often(3) && !strings.ContainsAny(ustr.Encode(s), "'\\\n") {
		quoted = ustr.Wide("'") + s + ustr.Wide("'")
	}
	w.l = append(w.l, piece{s: quoted})
}

// number writes a number.
func (w *writer) number(x float64) {
	switch {
	case math.IsInf(x, 1):
		w.put("1e999")
	case x == 16 && w.often(2):
		w.put("0x10")
	case x == 10 && w.often(2):
		w.put("1e1")
	default:
		w.put(ustr.Encode(numtext.Text(x)))
	}
}

// key writes a property's key: as a name, a string or a number.
func (w *writer) key(s string) {
	x := numtext.Number(s)
	switch {
	case lexer.Named(s) && w.often(2):
		if w.l = append(w.l, piece{s: s}); w.often(4) && !lexer.Reserved(s) {
			w.l = w.l[:len(w.l)-1]
			w.name(s)
		}
	case s != "" && numtext.Text(x) == s && x == x && w.often(2):
		w.number(x)
	default:
		w.text(s)
	}
}

// levelOf is an expression's level (layer 7).
func levelOf(n api.Node) int {
	switch n.Kind {
	case api.NodeComma:
		return 0
	case api.NodeAssign:
		return 1
	case api.NodeConditional:
		return 2
	case api.NodeBinary, api.NodeLogical:
		for i, l := range operators() {
			for _, op := range l {
				if op == n.Op {
					return i + 3
				}
			}
		}
	case api.NodeUnary:
		return 13
	case api.NodePostfix:
		return 14
	case api.NodeCall:
		return 15
	case api.NodeMember, api.NodeIndex:
		if levelOf(n.Kids[0]) == 15 {
			return 15
		}
		return 16
	case api.NodeNew:
		return 16
	}
	return 17
}

// at writes an expression at a level: within parentheses, where they must be, and
// now and then where not.
func (w *writer) at(n api.Node, level int, in bool) api.Node {
	if levelOf(n) < level || !in && n.Kind == api.NodeBinary && n.Op == "in" || w.often(9) {
		w.put("(")
		n = w.at(n, 0, true)
		w.put(")")
		return n
	}
	if n.Kind == api.NodeNew && len(n.Kids) == 1 && level < 15 && w.often(2) {
		n.Pos = len(w.l)
		w.put("new")
		n.Kids = []api.Node{w.at(n.Kids[0], 16, in)}
		return n
	}
	return w.expression(n, in)
}

// expression writes an expression.
func (w *writer) expression(n api.Node, in bool) api.Node {
	n.Pos = len(w.l)
	was := n.Kids
	n.Kids = nil
	kid := func(i, level int, in bool) { n.Kids = append(n.Kids, w.at(was[i], level, in)) }
	switch n.Kind {
	case api.NodeThis:
		w.put("this")
	case api.NodeNull:
		w.put("null")
	case api.NodeBool:
		w.put(map[bool]string{true: "true", false: "false"}[n.Flag])
	case api.NodeName:
		w.name(n.Str)
	case api.NodeNumber:
		w.number(n.Num)
	case api.NodeString:
		w.text(n.Str)
	case api.NodeArray:
		n.Kids = w.elements(was)
	case api.NodeObject:
		n.Kids = w.properties(was)
	case api.NodeFunction:
		n.Kids = w.function(n.Str, was)
	case api.NodeMember:
		kid(0, 15, in)
		w.put(".")
		w.l = append(w.l, piece{s: n.Str})
	case api.NodeIndex:
		kid(0, 15, in)
		w.put("[")
		kid(1, 0, true)
		w.put("]")
	case api.NodeNew:
		w.put("new")
		kid(0, 16, in)
		n.Kids = append(n.Kids, w.arguments(was[1:])...)
	case api.NodeCall:
		kid(0, 15, in)
		n.Kids = append(n.Kids, w.arguments(was[1:])...)
	case api.NodeUnary:
		w.put(n.Op)
		kid(0, 13, in)
	case api.NodePostfix:
		kid(0, 15, in)
		w.put(n.Op)
		w.stay(len(w.l) - 1)
	case api.NodeConditional:
		kid(0, 3, in)
		w.put("?")
		kid(1, 1, true)
		w.put(":")
		kid(2, 1, in)
	case api.NodeAssign:
		kid(0, 15, in)
		w.put(n.Op)
		kid(1, 1, in)
	case api.NodeComma:
		kid(0, 0, in)
		w.put(",")
		kid(1, 1, in)
	default:
		level := levelOf(n)
		kid(0, level, in)
		w.put(n.Op)
		kid(1, level+1, in)
	}
	return n
}

// elements writes an array's.
func (w *writer) elements(l []api.Node) []api.Node {
	w.put("[")
	var made []api.Node
	for i, n := range l {
		if n.Kind == api.NodeHole {
			n.Pos = len(w.l)
			w.put(",")
		} else if n = w.at(n, 1, true); i+1 < len(l) || w.often(4) {
			w.put(",")
		}
		made = append(made, n)
	}
	w.put("]")
	return made
}

// properties writes an object's.
func (w *writer) properties(l []api.Node) []api.Node {
	w.put("{")
	var made []api.Node
	for i, n := range l {
		n.Pos = len(w.l)
		switch n.Kind {
		case api.NodeGetter:
			w.put("get")
			w.key(n.Str)
			n.Kids = w.accessor(n.Kids[0])
		case api.NodeSetter:
			w.put("set")
			w.key(n.Str)
			n.Kids = w.accessor(n.Kids[0])
		default:
			w.key(n.Str)
			w.put(":")
			n.Kids = []api.Node{w.at(n.Kids[0], 1, true)}
		}
		if made = append(made, n); i+1 < len(l) || w.often(4) {
			w.put(",")
		}
	}
	w.put("}")
	return made
}

// accessor writes an accessor's function.
func (w *writer) accessor(n api.Node) []api.Node {
	n.Pos = len(w.l)
	n.Kids = w.code(n.Kids)
	return []api.Node{n}
}

// function writes a function.
func (w *writer) function(name string, l []api.Node) []api.Node {
	w.put("function")
	if name != "" {
		w.name(name)
	}
	return w.code(l)
}

// code writes parameters and a body.
func (w *writer) code(l []api.Node) []api.Node {
	k := len(l) - 1
	w.put("(")
	var made []api.Node
	for i, n := range l[:k] {
		if i > 0 {
			w.put(",")
		}
		n.Pos = len(w.l)
		w.name(n.Str)
		made = append(made, n)
	}
	w.put(")")
	return append(made, w.block(l[k]))
}

// arguments writes a list within parentheses.
func (w *writer) arguments(l []api.Node) []api.Node {
	w.put("(")
	var made []api.Node
	for i, n := range l {
		if i > 0 {
			w.put(",")
		}
		made = append(made, w.at(n, 1, true))
	}
	w.put(")")
	return made
}

// block writes a block or a body.
func (w *writer) block(n api.Node) api.Node {
	n.Pos = len(w.l)
	w.put("{")
	n.Kids = w.statements(n.Kids)
	w.put("}")
	return n
}

func (w *writer) statements(l []api.Node) []api.Node {
	var made []api.Node
	for _, n := range l {
		made = append(made, w.statement(n))
	}
	return made
}

// nothing is the place of what is left out.
func (w *writer) nothing(n api.Node) api.Node {
	n.Pos = len(w.l)
	return n
}

// statement writes a statement.
func (w *writer) statement(n api.Node) api.Node {
	n.Pos = len(w.l)
	was := n.Kids
	n.Kids = nil
	keep := func(x ...api.Node) { n.Kids = append(n.Kids, x...) }
	asked := func(x api.Node) {
		w.put("(")
		keep(w.at(x, 0, true))
		w.put(")")
	}
	inner := func(x api.Node) { keep(w.statement(x)) }
	switch n.Kind {
	case api.NodeDeclare:
		keep(w.function(n.Str, was)...)
	case api.NodeBlock:
		n.Kids = was
		return w.block(n)
	case api.NodeVar:
		keep(w.variables(was, true)...)
		w.end(false)
	case api.NodeEmpty:
		w.put(";")
	case api.NodeExpr:
		keep(w.plain(was[0]))
		w.end(false)
	case api.NodeIf:
		w.put("if")
		asked(was[0])
		inner(was[1])
		if len(was) == 3 {
			w.put("else")
			inner(was[2])
		}
	case api.NodeDo:
		w.put("do")
		inner(was[0])
		w.put("while")
		asked(was[1])
		w.end(true)
	case api.NodeWhile:
		w.put("while")
		asked(was[0])
		inner(was[1])
	case api.NodeFor, api.NodeForIn:
		keep(w.loop(n.Kind, was)...)
	case api.NodeContinue, api.NodeBreak:
		w.put(map[int]string{api.NodeContinue: "continue", api.NodeBreak: "break"}[n.Kind])
		if n.Str != "" {
			w.name(n.Str)
			w.stay(len(w.l) - 1)
		}
		w.end(false)
	case api.NodeReturn, api.NodeThrow:
		w.put(map[int]string{api.NodeReturn: "return", api.NodeThrow: "throw"}[n.Kind])
		for _, x := range was {
			keep(w.at(x, 0, true))
			w.stay(n.Pos + 1)
		}
		w.end(false)
	case api.NodeLabel:
		w.name(n.Str)
		w.put(":")
		inner(was[0])
	case api.NodeSwitch:
		w.put("switch")
		asked(was[0])
		w.put("{")
		for _, x := range was[1:] {
			keep(w.oneCase(x))
		}
		w.put("}")
	case api.NodeTry:
		keep(w.try(was)...)
	case api.NodeDebugger:
		w.put("debugger")
		w.end(false)
	}
	return n
}

// plain writes an expression that is a statement.
func (w *writer) plain(n api.Node) api.Node {
	from := len(w.l)
	made := w.at(n, 0, true)
	if s := ustr.Encode(w.l[from].s); s != "{" && s != "function" {
		return made
	}
	w.l = w.l[:from]
	w.put("(")
	made = w.at(n, 0, true)
	w.put(")")
	return made
}

// variables writes a NodeVar without its semicolon.
func (w *writer) variables(l []api.Node, in bool) []api.Node {
	w.put("var")
	var made []api.Node
	for i, n := range l {
		if i > 0 {
			w.put(",")
		}
		n.Pos = len(w.l)
		w.name(n.Str)
		if len(n.Kids) > 0 {
			w.put("=")
			n.Kids = []api.Node{w.at(n.Kids[0], 1, in)}
		}
		made = append(made, n)
	}
	return made
}

// loop writes a for.
func (w *writer) loop(kind int, l []api.Node) []api.Node {
	part := func(n api.Node, level int, in bool) api.Node {
		n.Pos = len(w.l)
		switch n.Kind {
		case api.NodeEmpty:
			return n
		case api.NodeVar:
			n.Kids = w.variables(n.Kids, in)
			return n
		}
		return w.at(n, level, in)
	}
	w.put("for", "(")
	var made []api.Node
	if kind == api.NodeForIn {
		made = append(made, part(l[0], 15, false))
		w.put("in")
		made = append(made, w.at(l[1], 0, true))
	} else {
		made = append(made, part(l[0], 0, false))
		w.put(";")
		made = append(made, part(l[1], 0, true))
		w.put(";")
		made = append(made, part(l[2], 0, true))
	}
	w.put(")")
	return append(made, w.statement(l[len(l)-1]))
}

// oneCase writes one of a switch's.
func (w *writer) oneCase(n api.Node) api.Node {
	n.Pos = len(w.l)
	if n.Flag {
		w.put("default", ":")
		n.Kids = w.statements(n.Kids)
		return n
	}
	w.put("case")
	first := w.at(n.Kids[0], 0, true)
	w.put(":")
	n.Kids = append([]api.Node{first}, w.statements(n.Kids[1:])...)
	return n
}

// try writes a try.
func (w *writer) try(l []api.Node) []api.Node {
	w.put("try")
	made := []api.Node{w.block(l[0])}
	if x := w.nothing(l[1]); x.Kind == api.NodeCatch {
		w.put("catch", "(")
		w.name(x.Str)
		w.put(")")
		x.Kids = []api.Node{w.block(x.Kids[0])}
		made = append(made, x)
	} else {
		made = append(made, x)
	}
	if l[2].Kind == api.NodeEmpty {
		return append(made, w.nothing(l[2]))
	}
	w.put("finally")
	return append(made, w.block(l[2]))
}

// left tells whether the i-th token is a semicolon that may be left out, if a line
// ends behind it; and whether that must be.
func (w *writer) left(i int) (bool, bool) {
	x := w.l[i]
	if !x.end {
		return false, false
	}
	if i+1 == len(w.l) {
		return true, false
	}
	next := ustr.Encode(w.l[i+1].s)
	if next == "}" {
		return true, false
	}
	if x.any {
		return next != ";", true
	}
	return next == "++" || next == "--" || !strings.ContainsAny(next[:1], "([;+-/.,?:=*%<>&|^"), true
}

// lay writes the tokens as a source, some semicolons left out, as leave says; told are
// the tokens' places, and that of the source's end.
func (w *writer) lay(leave func() bool) (string, []int) {
	var b strings.Builder
	var places []int
	units := 0
	write := func(s string) {
		b.WriteString(s)
		units += ustr.Len(s)
	}
	tight, must := true, false
	for i, x := range w.l {
		may, line := w.left(i)
		if may && leave() {
			places = append(places, -1)
			must = must || line
			continue
		}
		close := strings.Contains("()[]{},;", ustr.Encode(x.s))
		write(w.gap(tight || close, x.stay, must))
		places = append(places, units)
		write(x.s)
		tight, must = close, false
	}
	write(w.gap(true, false, false))
	return b.String(), append(places, units)
}

// gap is what stands between tokens: tight: nothing may; stay: no line may end; must:
// one must.
func (w *writer) gap(tight, stay, must bool) string {
	lines := []string{"\n", "\r\n", " // a b\n", " /* \n */ ", "\u2028", "\n\n\t", "\r"}
	blanks := []string{" ", " ", " ", "\t", "  ", " /* a ; b */ ", "\u00a0\ufeff", " /**/ "}
	l := blanks
	switch {
	case must:
		l = lines
	case tight && w.often(2):
		return ""
	case !stay && w.often(4):
		l = lines
	}
	s, _, _ := ustr.Decode(l[w.draw()%len(l)])
	return s
}

// written is a tree's source, written in one of the many ways, and that tree with its
// places.
func written(draw func() int, n api.Node, leave func() bool) (string, api.Node) {
	w := &writer{draw: draw}
	n.Kids = w.statements(n.Kids)
	s, places := w.lay(leave)
	return s, placed(n, places)
}

// placed is a tree with places for the numbers of tokens.
func placed(n api.Node, places []int) api.Node {
	if n.Pos = places[n.Pos]; n.Kind == api.NodeProgram {
		n.Pos = 0
	}
	var l []api.Node
	for _, x := range n.Kids {
		l = append(l, placed(x, places))
	}
	n.Kids = l
	return n
}
