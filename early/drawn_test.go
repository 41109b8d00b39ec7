package early_test

import (
	"strings"
	"testing"

	"quill/api"
)

// draws is the row of numbers with a number, the same in each run.
func draws(row int) func() int {
	x := uint64(row)
	return func() int {
		x = x*6364136223846793005 + 1442695040888963407
		return int(x >> 33)
	}
}

// writer draws sources of programs, of few names: what is wrong ahead of all running
// comes as it comes, oddities once in so many.
type writer struct {
	draw func() int
	odd  int
}

func (w writer) oddly() bool { return w.draw()%w.odd == 0 }

// one is one of some texts.
func (w writer) one(l ...string) string { return l[w.draw()%len(l)] }

// some is up to so many texts.
func (w writer) some(most int, between string, f func() string) string {
	var l []string
	for range w.draw() % (most + 1) {
		l = append(l, f())
	}
	return strings.Join(l, between)
}

func (w writer) name() string {
	if w.oddly() {
		return w.one("eval", "arguments")
	}
	return w.one("a", "b", "c", "d", "e", "evals", "f")
}

func (w writer) label() string { return w.one("l", "m", "eval", "a") }

// target is what is assigned to.
func (w writer) target(levels int) string {
	if w.oddly() {
		return w.one("this", "1", "'eval'", "[]", "new a", "(function () {})", "null", "({})")
	}
	x := func() string { return w.expression(levels - 1) }
	switch w.draw() % 4 {
	case 0:
		return w.name() + w.one(".eval", "[a]", "()")
	case 1:
		return "(" + x() + ")" + w.one(".arguments", "(b)")
	}
	return w.name()
}

func (w writer) expression(levels int) string {
	if levels <= 0 {
		return w.one("a", "b", "this", "1", "eval", "arguments.length", "(eval)(a)", "''")
	}
	x := func() string { return "(" + w.expression(levels-1) + ")" }
	switch w.draw() % 12 {
	case 0:
		return w.target(levels) + w.one(" = ", " += ", " >>>= ", " |= ") + x()
	case 1:
		return w.one("++", "--") + w.target(levels)
	case 2:
		return w.target(levels) + w.one("++", "--")
	case 3:
		if w.oddly() {
			return "delete " + w.name()
		}
		return w.one("delete a.", "delete b.", "typeof ") + w.name()
	case 4:
		return "{" + w.some(3, ", ", func() string { return w.property(levels - 1) }) + "}"
	case 5, 6:
		return "function " + w.one("", w.name()) + w.function(levels-1, 3)
	case 7:
		return "[" + w.some(3, ", ", x) + "]"
	}
	return x() + w.one(" + ", ", ", " && ", " ? a : ", " in ") + x()
}

func (w writer) property(levels int) string {
	key := w.one("a", "b", "1", "'1'", "eval", "if", "'a'", "c", "d", "e")
	switch w.draw() % 4 {
	case 0:
		return "get " + key + "() {" + w.elements(levels) + "}"
	case 1:
		return "set " + key + "(" + w.name() + ") {" + w.elements(levels) + "}"
	}
	return key + ": (" + w.expression(levels) + ")"
}

// function is a function's parameters and its body.
func (w writer) function(levels, most int) string {
	return "(" + w.some(most, ", ", w.name) + ") {" + w.elements(levels) + "}"
}

func (w writer) elements(levels int) string {
	return w.some(3, "\n", func() string {
		if w.draw()%5 == 0 {
			return "function " + w.name() + w.function(levels-1, 3)
		}
		return w.statement(levels)
	})
}

func (w writer) statement(levels int) string {
	if levels <= 0 {
		return w.one(";", "debugger;", "a;", "eval();", w.jump(), w.variables(0))
	}
	x := func() string { return "(" + w.expression(levels-1) + ")" }
	s := func() string { return w.statement(levels - 1) }
	switch w.draw() % 14 {
	case 0, 1:
		return x() + ";"
	case 2:
		return w.variables(levels) + ";"
	case 3:
		return "if " + x() + s() + w.one("", "\nelse "+s())
	case 4:
		return "do " + s() + "\nwhile " + x()
	case 5:
		return "while " + x() + s()
	case 6:
		return "for (" + w.one("", x(), w.variables(levels-1)) + "; " + w.one("", x()) + "; " + w.one("", x()) + ")" + s()
	case 7:
		return "for (" + w.one(w.target(levels), "var "+w.name()) + " in " + x() + ")" + s()
	case 8, 9:
		return w.label() + ": " + s()
	case 10:
		return "switch " + x() + "{case " + x() + ": " + w.some(2, "\n", s) + w.one("", "\ndefault: "+s()) + "\ncase a: " + s() + "}"
	case 11:
		return "try {" + s() + "}" + w.one("catch ("+w.name()+") {"+s()+"}", "finally {"+s()+"}", "catch (e) {} finally {"+s()+"}")
	case 12:
		return "{" + w.some(3, "\n", s) + "}"
	}
	return w.jump()
}

func (w writer) variables(levels int) string {
	l := "var " + w.name()
	for range w.draw() % 3 {
		l += ", " + w.name() + w.one("", " = ("+w.expression(levels-1)+")")
	}
	return l
}

func (w writer) jump() string {
	switch w.draw() % 5 {
	case 0:
		return "break;"
	case 1:
		return "continue;"
	case 2:
		return "break " + w.label() + ";"
	case 3:
		return "continue " + w.label() + ";"
	}
	return w.one("return;", "return a;", "throw a;")
}

// program draws a source. Within a function more may stand.
func (w writer) program(levels int) string {
	s := w.elements(levels)
	if w.draw()%2 == 0 {
		return s
	}
	return "a: while (1) (function () {" + s + "})"
}

// numbered gives each node its number for its place.
func numbered(n *api.Node) {
	count := 0
	each(n, func(x *api.Node) {
		x.Pos = count
		count++
	})
}

// judged holds a tree to have just the first wrong node that the rules have; it tells
// the rule's name.
func judged(t *testing.T, n api.Node, all []rule) string {
	t.Helper()
	numbered(&n)
	want, why := firstWrong(&n, all)
	if want < 0 {
		checked(t, n, 0, api.OK)
	} else {
		checked(t, n, want, api.ErrSyntax)
	}
	return why
}

func TestEa1Drawn(t *testing.T) {
	all := rules()
	met := map[string]int{}
	for i := range 60000 {
		w := writer{draws(i), 4 + i%40}
		met[judged(t, tree(t, w.program(1+i%4)), all)]++
	}
	for _, r := range append(all, rule{name: ""}) {
		if met[r.name] < 100 {
			t.Errorf("met were %v", met)
			break
		}
	}
}
