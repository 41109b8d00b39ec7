package source_test

import (
	"slices"
	"strings"
	"testing"
	"unicode/utf8"

	"quill/api"
	"quill/ast"
	"quill/early"
	"quill/parser"
	"quill/source"
)

// caps are those under which bytes are read, from the least to the greatest.
func caps() []int { return []int{1, 2, 3, 4, 5, 6, 7, 8, 9, 10, 12, 15, 20, 50, 255, 256} }

// under is what is told of some bytes under each cap.
func under(b string) []heard {
	var l []heard
	for _, depth := range caps() {
		l = append(l, read(b, depth))
	}
	return l
}

// deepThen holds what is told to be ErrDeep below a tree's Depth, and the same from it
// on.
func deepThen(t *testing.T, b string, l []heard, least int) {
	t.Helper()
	for i, depth := range caps() {
		want := l[len(l)-1]
		if depth < least {
			want = heard{errno: api.ErrDeep}
		}
		if !sameHeard(l[i], want) {
			t.Errorf("%q of Depth %d under %d: error %d at %d", short(b), least, depth, l[i].errno, l[i].place)
		}
	}
}

// Just one thing holds of any bytes: under each cap it is told, or they are too deep.
func TestSo3Caps(t *testing.T) {
	met := map[api.Errno]int{}
	for i := range 8000 {
		w := writer{draws(i), 20 + i%80}
		b := w.anyBytes()
		l := under(b)
		last := l[len(l)-1]
		met[last.errno]++
		switch last.errno {
		case api.OK:
			deepThen(t, b, l, ast.Depth(last.n))
		case api.ErrSyntax:
			// A tree that is wrong ahead of all running may be too deep, too.
			n, _, errno := parser.Parse(withUnits(b), api.MaxDepth)
			deepThen(t, b, l, ast.Depth(n))
			if errno == api.OK {
				met[-1]++
			}
		case api.ErrEncoding:
			deepThen(t, b, l, 0)
		default:
			t.Errorf("%q: error %d", short(b), last.errno)
		}
		if utf8.ValidString(b) != (last.errno != api.ErrEncoding) {
			t.Errorf("%q: error %d", short(b), last.errno)
		}
	}
	if met[api.OK] < 1000 || met[api.ErrSyntax] < 1000 || met[api.ErrEncoding] < 300 || met[-1] < 100 {
		t.Errorf("met were %v", met)
	}
}

// What is too long is so under all caps; what is too deep under one is so under less,
// and has a tree under the greatest, or is too deep there.
func TestSo3Limits(t *testing.T) {
	for _, b := range []string{strings.Repeat(" ", api.MaxSource+1), strings.Repeat(";", api.MaxTokens), strings.Repeat("{", api.MaxTokens/2) + strings.Repeat("}", api.MaxTokens/2)} {
		for _, h := range under(b) {
			if !sameHeard(h, heard{errno: api.ErrLong}) {
				t.Errorf("%q: error %d at %d", short(b), h.errno, h.place)
			}
		}
	}
	for _, levels := range []int{1, 2, 3, 9, 10, 11, 254, 255, 256, 257, 1000, 30000} {
		b := strings.Repeat("{", levels-1) + strings.Repeat("}", levels-1)
		for i, h := range under(b) {
			want := api.OK
			if levels > caps()[i] {
				want = api.ErrDeep
			}
			if h.errno != want || h.place != 0 || (h.errno == api.OK) != (ast.Depth(h.n) == levels) || want != api.OK && !alike(h.n, api.Node{}) {
				t.Errorf("%d levels under %d: error %d at %d", levels, caps()[i], h.errno, h.place)
			}
		}
	}
}

// Trees that Read tells may be, and nothing is wrong in them.
func TestSo3Trees(t *testing.T) {
	trees := 0
	for i := range 10000 {
		w := writer{draws(i), 50}
		h := read(w.anyBytes(), api.MaxDepth)
		if h.errno != api.OK {
			continue
		}
		trees++
		if ast.Check(h.n) != api.OK || ast.Depth(h.n) > api.MaxDepth {
			t.Errorf("%s may not be", seen(h.n))
		}
		if place, errno := early.Check(h.n); errno != api.OK {
			t.Errorf("%s: error %d at %d", seen(h.n), errno, place)
		}
	}
	if trees < 2000 {
		t.Errorf("%d trees", trees)
	}
}

// again holds a tree to be written, and its text to be read as the same tree, which is
// written likewise.
func again(t *testing.T, n api.Node) {
	t.Helper()
	b, errno := source.Write(n)
	if errno != api.OK {
		t.Errorf("%s: error %d", seen(n), errno)
		return
	}
	h := read(b, api.MaxDepth)
	if h.errno != api.OK || h.place != 0 || !ast.Same(n, h.n) {
		t.Errorf("%q: error %d at %d; %s", short(b), h.errno, h.place, seen(h.n))
	}
	writes(t, h.n, b)
}

func TestSo4RoundTrip(t *testing.T) {
	count := 0
	for i := range 10000 {
		w := writer{draws(i), 50}
		h := read(w.program(1+i%6), api.MaxDepth)
		if h.errno != api.OK {
			continue
		}
		again(t, h.n)
		again(t, varied(w.draw, h.n))
		count++
	}
	if count < 3000 {
		t.Errorf("%d trees", count)
	}
}

// The greatest trees that can be read again, and those beyond, which are too deep, or
// have too many tokens.
func TestSo4Limits(t *testing.T) {
	again(t, nested(256))
	again(t, program(wide(65535)...))
	again(t, long(1<<20))
	again(t, program(plain(text(slices.Repeat([]uint16{0xFFFF}, 174761)...))))
	for _, c := range []struct {
		n    api.Node
		want api.Errno
	}{{nested(257), api.ErrDeep}, {nested(30000), api.ErrDeep}, {nested(40000), api.ErrLong}, {nested(1 << 16), api.ErrLong}, {program(wide(65536)...), api.ErrLong}, {program(wide(1 << 19)...), api.ErrLong}} {
		b, errno := source.Write(c.n)
		if errno != api.OK {
			t.Errorf("error %d", errno)
		}
		refuses(t, b, api.MaxDepth, 0, c.want)
	}
}

// Write of Read of a canonical text is it: its tree is the tree that is printed.
func TestSo4Canonical(t *testing.T) {
	for _, b := range []string{"", ";\n", "a = b + c * d;\n", "(a + b) * c;\n", "- -a;\n", "({}.x);\n", "new (f())();\n", "\\u00E9 = \"\\u00FC\";\n", "if (a)\nb;\nelse\nc;\n", "{\n{\n}\n}\n", "for (var i = (a in b), j; ; )\n;\n", "(function f(a, b) {\nreturn a;\n});\n", "try {\n} catch (e) {\n} finally {\n}\n", "[, , a, ,];\n", "({\"\": 1, get \"a\"() {\n}, set \"a\"(b) {\n}});\n", "1e999 - (1).a;\n", "\"\\uD83D\\uDE00\\u0000\\\\\";\n", "do\n;\nwhile (1);\n"} {
		writes(t, tree(t, b), b)
	}
}

// Places of errors lie within the source, or at its end: bytes' within.
func TestSo4Places(t *testing.T) {
	inside, end := 0, 0
	for i := range 20000 {
		w := writer{draws(i), 30}
		b := w.anyBytes()
		h := read(b, 1+w.draw()%api.MaxDepth)
		switch {
		case h.errno == api.ErrEncoding:
			if h.place < 0 || h.place >= len(b) || !utf8.ValidString(b[:h.place]) || strings.HasPrefix(b[h.place:], "\uFFFD") || !strings.HasPrefix(strings.ToValidUTF8(b[h.place:], "\uFFFD"), "\uFFFD") {
				t.Errorf("%q: at %d", short(b), h.place)
			}
		case h.errno != api.ErrSyntax && h.place != 0 || h.place < 0 || h.place > units(b):
			t.Errorf("%q: error %d at %d", short(b), h.errno, h.place)
		case h.errno == api.ErrSyntax && h.place == units(b):
			end++
		case h.errno == api.ErrSyntax:
			inside++
		}
	}
	if inside < 2000 || end < 500 {
		t.Errorf("%d within, %d at the end", inside, end)
	}
}
