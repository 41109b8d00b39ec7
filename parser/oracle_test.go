package parser_test

import (
	"strings"
	"testing"

	"quill/api"
	"quill/ast"
	"quill/lexer"
	"quill/numtext"
	"quill/parser"
	"quill/ustr"
)

// agrees holds what a call tells of a source against the grammar's rules.
func agrees(t *testing.T, g *grammar, f call, start, src string) bool {
	t.Helper()
	l, place, errno := lexer.All(src)
	if errno != api.OK {
		refuses(t, f, src, 256, place, errno)
		return false
	}
	n, place, errno := f(src, 256)
	if want := g.place(start, l); want >= 0 {
		if errno != api.ErrSyntax || place != want || !zero(n) {
			t.Errorf("%q: error %d at %d, not at %d", ustr.Encode(src), errno, place, want)
		}
		return false
	}
	if errno != api.OK && errno != api.ErrDeep || place != 0 {
		t.Errorf("%q: error %d at %d", ustr.Encode(src), errno, place)
	}
	if errno == api.OK {
		may(t, n)
	}
	return errno == api.OK
}

// The rules are those of the clauses: they take what the drawn trees' sources are.
func TestGrammar(t *testing.T) {
	g := newGrammar()
	d := drawer{draws()}
	for range 300 {
		src, _ := written(d.draw, d.program(2+d.draw()%3), seldom(d.draw, 2))
		if l, _, _ := lexer.All(src); g.place("Program", l) >= 0 {
			t.Errorf("%q: refused at %d", ustr.Encode(src), g.place("Program", l))
		}
	}
}

// vocabulary is tokens of all kinds.
func vocabulary() []string {
	return strings.Fields("a b get set \\u0061 \\u0069f 1 'c' if else for while do var in instanceof function return break continue throw try catch finally switch case default new delete typeof this null true debugger with let ( ) [ ] { } . ; , ? : = += == + - ++ -- ! ~ * / < && ||")
}

// Sources of drawn trees with changes, often such as can't be read.
func TestPa1Changed(t *testing.T) {
	t.Parallel()
	g := newGrammar()
	d := drawer{draws()}
	words := vocabulary()
	taken := 0
	for range 4000 {
		w := &writer{draw: d.draw}
		w.statements(d.program(2 + d.draw()%4).Kids)
		l := []string{}
		for _, x := range w.l {
			l = append(l, ustr.Encode(x.s))
		}
		if len(l) > 60 {
			l = l[:60]
		}
		for range d.draw() % 3 {
			i := d.draw() % (len(l) + 1)
			word := words[d.draw()%len(words)]
			switch d.draw() % 4 {
			case 0:
				l = append(l[:i:i], append([]string{word}, l[i:]...)...)
			case 1:
				l = append(l[:i:i], l[min(i+1, len(l)):]...)
			case 2:
				if i < len(l) {
					l[i] = word
				}
			case 3:
				if i+1 < len(l) {
					l[i], l[i+1] = l[i+1], l[i]
				}
			}
		}
		var b strings.Builder
		for _, s := range l {
			b.WriteString(s)
			b.WriteString([]string{" ", " ", " ", " ", "\n"}[d.draw()%5])
		}
		if agrees(t, g, parser.Parse, "Program", text(t, b.String())) {
			taken++
		}
	}
	if taken < 500 || taken > 3500 {
		t.Errorf("%d of 4000 are programs", taken)
	}
}

// Behind each beginning of a program any token is held against the rules: whether it
// can stand there, and what is told, if the source ends behind it.
func TestPa1Beginnings(t *testing.T) {
	t.Parallel()
	g := newGrammar()
	draw := draws()
	for i := range 12 {
		walk(t, g, draw, parser.Parse, "Program", 30)
		if i%3 == 0 {
			walk(t, g, draw, parser.Expression, "Expression", 20)
		}
	}
}

// walk goes along a beginning of so many tokens.
func walk(t *testing.T, g *grammar, draw func() int, f call, start string, steps int) {
	t.Helper()
	c, src := newChart(g, start), ""
	for range steps {
		var further []*chart
		var sources []string
		for _, word := range vocabulary() {
			for _, gap := range []string{" ", "\n"} {
				s := src + gap + word
				next, ok := stands(t, c, f, start, s)
				if ok {
					further, sources = append(further, next), append(sources, s)
				}
			}
		}
		if len(further) == 0 {
			return
		}
		i := draw() % len(further)
		c, src = further[i], sources[i]
	}
}

// stands holds a source's last token against the rules, and the source's end: c has
// read all ahead. It tells whether that token can stand.
func stands(t *testing.T, c *chart, f call, start, src string) (*chart, bool) {
	t.Helper()
	s := text(t, src)
	l, _, errno := lexer.All(s)
	if errno != api.OK {
		t.Fatalf("%q can't be read", src)
	}
	next := c.fork()
	want := next.next(l[len(l)-2], start)
	ok := want < 0
	if ok {
		want = next.fork().next(l[len(l)-1], start)
	}
	_, place, errno := f(s, 256)
	if want < 0 && (errno != api.OK && errno != api.ErrDeep || place != 0) || want >= 0 && (errno != api.ErrSyntax || place != want) {
		t.Errorf("%q: error %d at %d, not at %d", src, errno, place, want)
	}
	return next, ok
}

// No token is lost, and none changes its place among the others: those of the
// canonical text are those of the source, but for parentheses, commas, semicolons.
func TestPa3Tokens(t *testing.T) {
	d := drawer{draws()}
	for range 3000 {
		src, _ := written(d.draw, d.program(2+d.draw()%5), seldom(d.draw, 2))
		n, _, errno := parser.Parse(src, 256)
		if errno != api.OK {
			continue
		}
		s, _ := ast.Print(n)
		if a, b := bones(t, src), bones(t, s); a != b {
			t.Errorf("%q:\n%q, not\n%q", short(src), b, a)
		}
	}
}

// bones are a source's tokens without those that a canonical text may add or leave out.
func bones(t *testing.T, src string) string {
	t.Helper()
	l, _, errno := lexer.All(src)
	if errno != api.OK {
		t.Fatalf("%q can't be read", short(src))
	}
	var b strings.Builder
	for _, x := range l {
		s := x.Text
		if x.Kind == api.TokenNumber {
			s = numtext.Text(x.Num)
		}
		if x.Kind == api.TokenMark && strings.Contains("(),;", ustr.Encode(s)) {
			continue
		}
		b.WriteString(ustr.Encode(s))
		b.WriteString(" ")
	}
	return b.String()
}
