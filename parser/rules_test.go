package parser_test

import (
	"math"
	"strings"
	"sync"
	"testing"

	"quill/api"
	"quill/ast"
	"quill/lexer"
	"quill/parser"
	"quill/ustr"
)

// heard is what a call tells.
type heard struct {
	n     api.Node
	place int
	errno api.Errno
}

// calls is what both calls tell.
func calls(src string, depth int) []heard {
	var l []heard
	for _, f := range faces() {
		n, place, errno := f(src, depth)
		l = append(l, heard{n, place, errno})
	}
	return l
}

func sameHeard(a, b heard) bool {
	return a.place == b.place && a.errno == b.errno && alike(a.n, b.n)
}

func anyDepths() []int {
	return []int{math.MinInt, math.MinInt + 1, -1 << 32, -1, 0, 1, 2, 3, 4, 5, 9, 255, 256, 257, 1 << 32, math.MaxInt - 1, math.MaxInt}
}

// anyTexts are texts of all kinds, and strings of an odd number of bytes.
func anyTexts() []string {
	l := []string{"", "\x00", "a", "(", "\xFF", "\x00(\x00", "\x00a\x00", "\x00+", "\xD8\x00", "\xDC\x00\xD8", "\x00/\x00*\x00", "\x20\x28\x00", "\x00a\x00\n\x00+\x00+"}
	for _, b := range []string{"a", "a b", "a;b", "if(a)b;else c", "for(a in b);", "for(;;);", "({get a(){}})", "function f(a){return a}", "++a++", "a\n++b", "[1,,2,]", "new new a()()", "try{}finally{}", "switch(a){default:}", "'a'", "\\u0061", "x=y=z", "a?b:c", "}", ")", "]", ";;", "#", "/*", "var a", "throw\na", "l:l:;", "\u2028a\u2029"} {
		s, _, _ := ustr.Decode(b)
		l = append(l, s, s+"\x00", s+";", s+s, ustr.Slice(s, 1, ustr.Len(s)), ustr.Slice(s, 0, ustr.Len(s)-1))
	}
	return l
}

// each calls f with arguments of all kinds.
func each(f func(src string, depth int)) {
	for _, src := range anyTexts() {
		for _, depth := range anyDepths() {
			f(src, depth)
		}
	}
}

func TestR1NoPanic(t *testing.T) {
	each(func(src string, depth int) { calls(src, depth) })
	draw := draws()
	words := vocabulary()
	for range 20000 {
		var b strings.Builder
		for range draw() % 12 {
			b.WriteString(words[draw()%len(words)])
			b.WriteByte(" \n"[draw()%2])
		}
		src := ustr.Wide(b.String())
		calls(src, draw()%300)
		calls(src[draw()%(len(src)+1):], draw()%300)
		calls(src[:draw()%(len(src)+1)], 256)
	}
}

// deepest is a source of as many tokens as may be, of parts that stand in each other.
func deepest(left, middle, right string) string {
	count := func(s string) int {
		l, _, _ := lexer.All(ustr.Wide(s))
		return len(l) - 1
	}
	times := (api.MaxTokens - 1 - count(middle)) / (count(left) + count(right))
	return ustr.Wide(strings.Repeat(left, times) + middle + strings.Repeat(right, times))
}

// Sources as deep as their tokens let are read to their ends: they are too deep, or
// end too soon.
func TestR1EndsDeep(t *testing.T) {
	t.Parallel()
	for _, c := range []struct{ left, middle, right string }{
		{"(", "a", ")"}, {"[", "a", "]"}, {"{", "a", "}"}, {"- ", "a", ""}, {"++", "a", ""}, {"new ", "a", ""}, {"a(", "b", ")"}, {"a[", "b", "]"}, {"a=", "b", ""}, {"a?", "b", ":c"}, {"a?b:", "c", ""},
		{"({a:", "b", "})"}, {"{a:", "b", "}"}, {"a:", "b", ""}, {"function f(){", "a", "}"}, {"(function(){", "a", "})"}, {"({get a(){", "b", "}})"}, {"if(a)", "b", ""}, {"if(a);else ", "b", ""}, {"do ", "a", "\nwhile(b)"},
		{"while(a)", "b", ""}, {"for(;;)", "a", ""}, {"for(a in b)", "c", ""}, {"switch(a){default:", "b", "}"}, {"try{", "a", "}finally{}"}, {"a+(", "b", ")"}, {"a,", "b", ""}, {"a+", "b", ""}, {"a||", "b", ""}, {"return function(){", "a", "}"},
		{"", "a", ".b"}, {"", "a", "()"}, {"", "a", "\n+b"}, {"", ";", "a\n"}, {"!(", "a", ")"}, {"f(a,", "b", ")"},
	} {
		deep := deepest(c.left, c.middle, c.right)
		n, place, errno := parser.Parse(deep, 256)
		if !zero(n) && errno != api.OK || errno == api.OK && ast.Depth(n) > 256 || errno == api.ErrLong || place != 0 && errno != api.ErrSyntax {
			t.Errorf("%q: error %d at %d", short(deep), errno, place)
		}
		if c.left == "" {
			continue
		}
		refuses(t, parser.Parse, deep+ustr.Wide("/*"), 256, ustr.Len(deep), api.ErrSyntax)
		if deep = deepest(c.left, "", ""); c.left != "- " && c.left != "new " && c.left != "do " {
			refuses(t, parser.Parse, deep, 256, ustr.Len(deep), api.ErrSyntax)
		}
	}
	for _, f := range faces() { // as parentheses make nothing deep, these are told
		if _, place, errno := f(deepest("(", "a", ")"), 3); place != 0 || errno != api.OK {
			t.Errorf("error %d at %d", errno, place)
		}
	}
}

// Beside an error there is no tree, and without ErrSyntax the place is 0.
func TestR2ZeroBesideErrors(t *testing.T) {
	met := map[api.Errno]int{}
	each(func(src string, depth int) {
		for i, h := range calls(src, depth) {
			met[h.errno]++
			if h.errno != api.OK && !zero(h.n) || h.errno != api.ErrSyntax && h.place != 0 {
				t.Errorf("call %d of %q under %d: error %d at %d", i, src, depth, h.errno, h.place)
			}
			if h.place < 0 || h.place > ustr.Len(src) {
				t.Errorf("call %d of %q: place %d", i, src, h.place)
			}
		}
	})
	if len(met) != 4 || met[api.OK] < 200 || met[api.ErrArg] < 200 || met[api.ErrSyntax] < 200 || met[api.ErrDeep] < 20 {
		t.Errorf("met were %v", met)
	}
}

// Of several errors the one that the chapter names first.
func TestR2FirstError(t *testing.T) {
	long, unread := strings.Repeat("a b ", 40000), " #"
	refuses(t, parser.Parse, ustr.Wide(long+unread), 0, 0, api.ErrArg)
	refuses(t, parser.Parse, ustr.Wide(long+unread), 1, 160001, api.ErrSyntax)
	refuses(t, parser.Parse, ustr.Wide(long), 1, 0, api.ErrLong)
	refuses(t, parser.Parse, ustr.Wide("a b"), 1, 2, api.ErrSyntax)
	refuses(t, parser.Parse, ustr.Wide("a"), 1, 0, api.ErrDeep)
	refuses(t, parser.Expression, ustr.Wide(long+unread), 257, 0, api.ErrArg)
	refuses(t, parser.Expression, ustr.Wide(long+unread), 1, 160001, api.ErrSyntax)
	refuses(t, parser.Expression, ustr.Wide(long), 1, 0, api.ErrLong)
	refuses(t, parser.Expression, ustr.Wide("-a b"), 1, 3, api.ErrSyntax)
	refuses(t, parser.Expression, ustr.Wide("-a"), 1, 0, api.ErrDeep)
}

// spoil fills what lies behind each list's end, and tells the lists.
func spoil(n api.Node) [][]api.Node {
	l := [][]api.Node{n.Kids}
	for _, x := range n.Kids {
		l = append(l, spoil(x)...)
	}
	behind := n.Kids[len(n.Kids):cap(n.Kids)]
	for i := range behind {
		behind[i] = api.Node{Kind: 77}
	}
	return l
}

// Answers are new: no two lists share room, and what is done with one no later call
// tells.
func TestR3AnswersAreNew(t *testing.T) {
	d := drawer{draws()}
	for range 500 {
		src, want := written(d.draw, d.program(2+d.draw()%5), seldom(d.draw, 2))
		n, _, _ := parser.Parse(src, 256)
		lists := spoil(n)
		if !alike(n, want) {
			t.Errorf("%q: lists share room", short(src))
		}
		for _, l := range lists {
			clear(l)
		}
		if m, _, _ := parser.Parse(src, 256); !alike(m, want) {
			t.Errorf("%q: told otherwise", short(src))
		}
	}
}

func TestR4OnlyArguments(t *testing.T) {
	ask := func() []heard {
		var l []heard
		each(func(src string, depth int) { l = append(l, calls(src, depth)...) })
		return l
	}
	want := ask()
	var all [4][]heard
	var group sync.WaitGroup
	for i := range all {
		group.Go(func() { all[i] = ask() })
	}
	group.Wait()
	for _, l := range all {
		for i, h := range l {
			if !sameHeard(h, want[i]) {
				t.Errorf("call %d told something else", i)
			}
		}
	}
}

// Of all that can't stand the first is told, by the order of the source.
func TestR5First(t *testing.T) {
	refused(t, parser.Parse, "a ¦b c d", "¦) ) )", "f(¦, , ,)", "a + b ¦= c = d + e = f", "if (a) ¦else else", "{ a ¦b } }", "a; ¦}; }", "throw\n¦a b", "var ¦if, else", "¦++ -a; ++ -b", "a++ ¦++ ++")
}
