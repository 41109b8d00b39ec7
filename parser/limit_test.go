package parser_test

import (
	"math"
	"strings"
	"testing"

	"quill/api"
	"quill/ast"
	"quill/parser"
	"quill/ustr"
)

// faces are both calls.
func faces() []call { return []call{parser.Parse, parser.Expression} }

func TestPa1Depths(t *testing.T) {
	for _, depth := range []int{math.MinInt, -1 << 32, -1, 0, 257, 258, 1 << 16, 1 << 32, 1<<32 + 9, math.MaxInt} {
		for _, f := range faces() {
			for _, src := range []string{"a", "", "#", ")", strings.Repeat("(", 70000)} {
				refuses(t, f, text(t, src), depth, 0, api.ErrArg)
			}
		}
	}
	for _, depth := range []int{4, 5, 99, 255, 256} {
		for _, f := range faces() {
			if n, place, errno := f(ustr.Wide("a = 1"), depth); zero(n) || place != 0 || errno != api.OK {
				t.Errorf("under %d: error %d at %d", depth, errno, place)
			}
		}
	}
}

// What layer 6 refuses is told ahead of what can't stand, wherever it is.
func TestPa1Unread(t *testing.T) {
	for src, want := range map[string]int{"#": 0, "a b #": 4, ") ) '": 4, "a /*": 2, "if (a b c 010": 10, "a /b'/": 4, "}}}\n\n\\": 5, "é 3in": 2} {
		for _, f := range faces() {
			refuses(t, f, text(t, src), 1, want, api.ErrSyntax)
		}
	}
	for _, count := range []int{65535, 65536, 70000} { // of too many tokens, too
		for _, f := range faces() {
			refuses(t, f, text(t, strings.Repeat(";", count)+" #"), 1, count+1, api.ErrSyntax)
		}
	}
}

// There may be 65536 tokens, the TokenEnd counted.
func TestPa1Tokens(t *testing.T) {
	n, place, errno := parser.Parse(ustr.Wide(strings.Repeat(";", 65535)), 2)
	if len(n.Kids) != 65535 || place != 0 || errno != api.OK {
		t.Errorf("%d statements, error %d at %d", len(n.Kids), errno, place)
	}
	for _, src := range []string{strings.Repeat(";", 65536), strings.Repeat(") ", 65536), strings.Repeat("a\n", 70000), strings.Repeat("(", 1<<18), "a" + strings.Repeat("+a", 32768)} {
		for _, f := range faces() {
			refuses(t, f, ustr.Wide(src), 1, 0, api.ErrLong)
		}
	}
	for _, src := range []string{"a" + strings.Repeat(",a", 32767), "[" + strings.Repeat("1,", 32766) + "2]"} {
		if _, _, errno := parser.Expression(ustr.Wide(src), 256); errno != api.OK && errno != api.ErrDeep {
			t.Errorf("error %d", errno)
		}
	}
	refuses(t, parser.Parse, ustr.Wide(strings.Repeat(";", 65534)+")"), 2, 65534, api.ErrSyntax)
	refuses(t, parser.Parse, ustr.Wide(strings.Repeat(" ", 1<<20)+")"), 2, 1<<20, api.ErrSyntax)
}

// What can't stand is told ahead of a tree that is too deep, wherever it is.
func TestPa1SyntaxAheadOfDeep(t *testing.T) {
	refused(t, func(src string, depth int) (api.Node, int, api.Errno) { return parser.Parse(src, 1) },
		"a ¦b", "- - -a; ¦)", strings.Repeat("!", 5000)+"¦)", strings.Repeat("{", 5000)+strings.Repeat("}", 5000)+"¦}", strings.Repeat("a=", 5000)+"b ¦c", strings.Repeat("(", 9000)+strings.Repeat("!", 900)+"a"+strings.Repeat(")", 9000)+"¦)")
	refused(t, func(src string, depth int) (api.Node, int, api.Errno) { return parser.Expression(src, 1) },
		"-a ¦b", strings.Repeat("!", 5000)+"¦)")
}

// A tree's levels are counted as layer 7 does: under its Depth it is told, under less
// it is too deep.
func TestPa1Deep(t *testing.T) {
	for src, want := range map[string]int{
		"": 1, ";": 2, "a": 3, "a=1": 4, "-a": 4, "((((a))))": 3, "a.b.c": 5, "a+b+c+d": 6, "a+(b+(c+d))": 6, "{}": 2, "{{}}": 3, "{a}": 4, "function f(){}": 3, "function f(a){b}": 5, "[[[]]]": 5, "[,]": 4, "({a:1})": 5, "({get a(){}})": 6, "if(a)b;else c": 4, "try{}catch(a){b}": 6, "switch(a){case b:c}": 5, "var a": 3, "for(;;);": 3, "for(var a in b);": 4, "a,b,c": 5, "new a": 4,
	} {
		s := text(t, src)
		n, _, errno := parser.Parse(s, want)
		if errno != api.OK || ast.Depth(n) != want {
			t.Errorf("%q under %d: error %d, Depth %d", src, want, errno, ast.Depth(n))
		}
		if want > 1 {
			refuses(t, parser.Parse, s, want-1, 0, api.ErrDeep)
			refuses(t, parser.Parse, s, 1, 0, api.ErrDeep)
		}
	}
	for src, want := range map[string]int{"a": 1, "((((a))))": 1, "a=1": 2, "!!!a": 4, "[a,[b]]": 3} {
		if n, _, errno := parser.Expression(text(t, src), want); errno != api.OK || ast.Depth(n) != want {
			t.Errorf("%q under %d: error %d, Depth %d", src, want, errno, ast.Depth(n))
		}
		if want > 1 {
			refuses(t, parser.Expression, text(t, src), want-1, 0, api.ErrDeep)
		}
	}
	for k := 250; k < 260; k++ {
		src := ustr.Wide(strings.Repeat("!", k) + "a")
		if _, place, errno := parser.Parse(src, 256); place != 0 || (errno == api.OK) != (k+3 <= 256) || errno != api.OK && errno != api.ErrDeep {
			t.Errorf("%d signs: error %d at %d", k, errno, place)
		}
		if _, place, errno := parser.Expression(src, 256); place != 0 || (errno == api.OK) != (k+1 <= 256) || errno != api.OK && errno != api.ErrDeep {
			t.Errorf("%d signs: error %d at %d", k, errno, place)
		}
	}
}
