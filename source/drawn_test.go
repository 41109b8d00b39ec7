package source_test

import (
	"math"
	"strings"

	"quill/api"
	"quill/ustr"
)

// draws is the row of numbers with a number, the same in each run.
func draws(row int) func() int {
	x := uint64(row)
	return func() int {
		x = x*6364136223846793005 + 1442695040888963407
		return int(x >> 33)
	}
}

// writer draws programs as bytes; what may not be comes once in so many.
type writer struct {
	draw func() int
	odd  int
}

func (w writer) oddly() bool { return w.draw()%w.odd == 0 }

// one is one of some texts.
func (w writer) one(l ...string) string { return l[w.draw()%len(l)] }

// some is up to so many texts.
func (w writer) some(most int, between string, f func() string) string {
	var l []string
	for range w.draw() % (most + 1) {
		l = append(l, f())
	}
	return strings.Join(l, between)
}

// gap is what may stand between tokens.
func (w writer) gap() string {
	return w.one(" ", " ", " ", "\t", "\u00a0", "/* é */", "/*😀*/", "\ufeff")
}

func (w writer) name() string {
	if w.oddly() {
		return w.one("eval", "arguments", "if", "1")
	}
	return w.one("a", "b", "c", "é", "ß", "𝒳", `\u0061`, "€1", "get")
}

func (w writer) key() string {
	return w.one("a", "b", "'a'", "if", "1", "é", "'é'", "'😀'", "get", "set", "'\\ud800'", "16", "0x10", "''")
}

func (w writer) expression(levels int) string {
	if levels <= 0 {
		return w.one("this", "1", "0x1F", "1e400", ".5", "null", "true", "'é'", "'\\n'", "'😀\\u2028'", `"\ud83d"`, w.name(), w.name(), w.name())
	}
	x := func() string { return w.expression(levels - 1) }
	in := func() string { return "(" + x() + ")" }
	switch w.draw() % 16 {
	case 0, 1:
		return w.target(levels) + w.gap() + w.one("=", "+=", ">>>=") + w.gap() + in()
	case 2:
		return w.one("++", "--") + w.target(levels)
	case 3:
		return w.target(levels) + w.one("++", "--")
	case 4:
		return w.one("delete this.", "typeof ", "void ") + w.name()
	case 5:
		return "({" + w.some(3, ", ", func() string { return w.property(levels - 1) }) + "})"
	case 6, 7:
		return "(function" + w.gap() + w.one("", w.name()) + w.function(levels-1) + ")"
	case 8:
		return "[" + w.some(3, ",", func() string { return w.one("", in()) }) + "]"
	case 9:
		return w.one("- ", "+ ", "!", "~") + in()
	case 10:
		return in() + w.gap() + "?" + in() + ":" + in()
	case 11:
		return "new" + w.gap() + w.name() + "(" + w.some(2, ", ", in) + ")"
	case 12:
		return w.name() + "(" + w.some(2, ", ", in) + ")" + "[" + x() + "]"
	}
	return in() + w.gap() + w.one("+", "-", "*", "in", "<", "===", "&&", "||", ",", "instanceof") + w.gap() + in()
}

// target is what is assigned to.
func (w writer) target(levels int) string {
	if w.oddly() {
		return w.one("this", "1", "[]", "-a", "null")
	}
	return w.one(w.name(), w.name()+".if", w.name()+"["+w.expression(levels-1)+"]", w.name()+"()")
}

func (w writer) property(levels int) string {
	switch w.draw() % 4 {
	case 0:
		return "get " + w.key() + "() {" + w.elements(levels) + "}"
	case 1:
		return "set " + w.key() + "(" + w.name() + ") {" + w.elements(levels) + "}"
	}
	return w.key() + ": (" + w.expression(levels) + ")"
}

func (w writer) function(levels int) string {
	return "(" + w.some(2, ", ", w.name) + ") {" + w.elements(levels) + w.one("", "return", "return "+w.expression(levels)) + "}"
}

func (w writer) elements(levels int) string {
	return w.some(3, "\n", func() string {
		if w.draw()%5 == 0 {
			return "function " + w.name() + w.function(levels-1)
		}
		return w.statement(levels)
	})
}

func (w writer) variables(levels int) string {
	return "var" + w.gap() + w.name() + w.one("", " = ("+w.expression(levels)+")", ", "+w.name())
}

func (w writer) statement(levels int) string {
	if levels <= 0 {
		return w.one(";", "debugger;", "é;", "a()\n", w.variables(0)+";", "throw a;", w.jump())
	}
	x := func() string { return "(" + w.expression(levels-1) + ")" }
	s := func() string { return w.statement(levels - 1) }
	switch w.draw() % 14 {
	case 0, 1, 2:
		return w.expression(levels) + w.one(";", "\n", "\u2028", " // é\n", "")
	case 3:
		return w.variables(levels) + w.one(";", "\n")
	case 4:
		return "if " + x() + s() + w.one("", "\nelse "+s())
	case 5:
		return "do " + w.inLoop(levels) + "\nwhile " + x()
	case 6:
		return "while " + x() + w.inLoop(levels)
	case 7:
		return "for (" + w.one("", x(), w.variables(levels-1)) + "; " + w.one("", x()) + "; " + w.one("", x()) + ")" + w.inLoop(levels)
	case 8:
		return "for (" + w.one(w.target(levels), "var "+w.name()) + " in " + x() + ")" + w.inLoop(levels)
	case 9:
		return "é: " + s()
	case 10:
		return "switch " + x() + "{case " + x() + ": " + w.some(2, "\n", s) + "\nbreak\n" + w.one("", "\ndefault: "+s()) + "}"
	case 11:
		return "try {" + s() + "}" + w.one("catch ("+w.name()+") {"+s()+"}", "finally {"+s()+"}", "catch (e) {} finally {"+s()+"}")
	case 12:
		return "{" + w.some(3, "\n", s) + "}"
	}
	return w.jump()
}

// inLoop is a loop's body.
func (w writer) inLoop(levels int) string {
	return "{" + w.one("", "break;", "continue;") + w.statement(levels-1) + "}"
}

func (w writer) jump() string {
	if w.oddly() {
		return w.one("break;", "continue é;", "return;", "break é;", "delete a;", "a b;")
	}
	return w.one(";", "a;", "throw é;")
}

// program draws a program.
func (w writer) program(levels int) string {
	s := w.elements(levels)
	if w.draw()%2 == 0 {
		return s
	}
	return "(function () {" + s + "})"
}

// spoilt is some bytes with a byte changed, left out or put in, or with an end cut off.
func (w writer) spoilt(b string) string {
	i := w.draw() % (len(b) + 1)
	switch w.draw() % 5 {
	case 0:
		return b[:i]
	case 1:
		return b[i:]
	case 2:
		return b[:i] + b[min(i+1, len(b)):]
	case 3:
		return b[:i] + string([]byte{byte(w.draw())}) + b[i:]
	}
	return b[:i] + w.one("(", ")", "{", "}", ";", "'", " ", "\n", "a", "1", "é", "delete a", "eval", "\xC3", "\x80") + b[i:]
}

// anyBytes are bytes of all kinds: programs, what is nearly one, and what is none.
func (w writer) anyBytes() string {
	if w.draw()%10 == 0 {
		b := make([]byte, w.draw()%9)
		for i := range b {
			b[i] = byte(w.draw())
		}
		return string(b)
	}
	b := w.program(w.draw() % 6)
	for range w.draw() % 3 {
		b = w.spoilt(b)
	}
	return b
}

// varied changes the texts and numbers of a tree that may be, so that it still may.
func varied(draw func() int, n api.Node) api.Node {
	n = copied(n)
	each(&n, func(x *api.Node) {
		x.Pos = draw() - draw()
		switch x.Kind {
		case api.NodeString:
			x.Str = anyUnits(draw)
		case api.NodeNumber:
			x.Num = []float64{0, 1, 0.1, 1e21, 1e-7, 5e-324, math.MaxFloat64, math.Inf(1), float64(draw()), 1 / float64(1+draw())}[draw()%10]
		case api.NodeMember:
			x.Str = ustr.Make([][]uint16{{'i', 'f'}, {'a'}, {0xE9, '1'}, {0xD800}, {0xDC00, '$'}, {0xD83D, 0xDE00}, {0xFFFF}}[draw()%7])
		}
	})
	return n
}

// anyUnits is a text of units of all kinds.
func anyUnits(draw func() int) string {
	l := make([]uint16, draw()%5)
	for i := range l {
		l[i] = []uint16{0, 0xA, 0xD, 0x22, 0x27, 0x5C, 0x7F, 0x80, 0x2028, 0xD800, 0xDC00, 0xFFFE, uint16(draw()), uint16(draw()) % 128}[draw()%14]
	}
	return ustr.Make(l)
}
