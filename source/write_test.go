package source_test

import (
	"math"
	"slices"
	"strings"
	"testing"

	"quill/api"
	"quill/ast"
	"quill/early"
	"quill/source"
	"quill/ustr"
)

func text(l ...uint16) api.Node { return api.Node{Kind: api.NodeString, Str: ustr.Make(l)} }

func TestSo2Texts(t *testing.T) {
	for b, want := range map[string]string{
		"":                          "",
		"a=1":                       "a = 1;\n",
		"é = 'ü'":                   "\\u00E9 = \"\\u00FC\";\n",
		"'😀'":                       "\"\\uD83D\\uDE00\";\n",
		"𝒳.ß":                       "\\uD835\\uDCB3.\\u00DF;\n",
		"({é: 1, get 'ü'() {}})":    "({\"\\u00E9\": 1, get \"\\u00FC\"() {\n}});\n",
		"é: while (1) break é":      "\\u00E9:\nwhile (1)\nbreak \\u00E9;\n",
		"function é(ä) {return ä}":  "function \\u00E9(\\u00E4) {\nreturn \\u00E4;\n}\n",
		"try {} catch (é) {'\\0'}":  "try {\n} catch (\\u00E9) {\n\"\\u0000\";\n}\n",
		"var ö = '\\ud800'":         "var \\u00F6 = \"\\uD800\";\n",
		"/*€*/ 1e400 - 0x10":        "1e999 - 16;\n",
		"if (a) b; else c":          "if (a)\nb;\nelse\nc;\n",
		"for (var i = 0 in o);":     "for (var i = 0 in o)\n;\n",
		"'a\\nb\\\"' + \"'\"":       "\"a\\u000Ab\\\"\" + \"'\";\n",
		"a = b\n++c":                "a = b;\n++c;\n",
		"switch (é) { default: a }": "switch (\\u00E9) {\ndefault:\na;\n}\n",
	} {
		writes(t, tree(t, b), want)
	}
	writes(t, program(plain(text(0xD800)), plain(text(0xDC00, 0xD800)), plain(text(0x7F, 0x80))), "\"\\uD800\";\n\"\\uDC00\\uD800\";\n\"\\u007F\\u0080\";\n")
	writes(t, program(plain(api.Node{Kind: api.NodeName, Str: ustr.Make([]uint16{0xD800, 'a'}), Pos: -7})), "\\uD800a;\n")
}

// All that is written is of ASCII: its bytes are the units of layer 7's text.
func TestSo2Drawn(t *testing.T) {
	written := 0
	for i := range 10000 {
		w := writer{draws(i), 60}
		h := read(w.program(1+i%5), api.MaxDepth)
		n := varied(w.draw, h.n)
		s, errno := ast.Print(n)
		if errno != api.OK {
			unwritten(t, n, errno)
			continue
		}
		var want []byte
		for _, u := range ustr.Units(s) {
			if u > 127 {
				t.Fatalf("%q has the unit %d", short(ustr.Encode(s)), u)
			}
			want = append(want, byte(u))
		}
		writes(t, n, string(want))
		written++
	}
	if written < 5000 {
		t.Errorf("%d trees were written", written)
	}
}

func TestSo2NoTrees(t *testing.T) {
	for _, n := range []api.Node{
		{}, {Kind: -1}, {Kind: 99}, name("a"), empty(), plain(name("a")), node(api.NodeBody), node(api.NodeProgram, name("a")), program(plain(name("if"))), program(plain(name(""))), program(api.Node{Kind: api.NodeProgram}),
		{Kind: api.NodeProgram, Op: "+"}, {Kind: api.NodeProgram, Str: "\x00a"}, {Kind: api.NodeProgram, Num: math.Copysign(0, -1)}, {Kind: api.NodeProgram, Flag: true},
		program(plain(api.Node{Kind: api.NodeNumber, Num: math.NaN()})), program(plain(api.Node{Kind: api.NodeNumber, Num: -1})), program(plain(api.Node{Kind: api.NodeString, Str: "a"})), program(plain(operated(api.NodeAssign, "=", operated(api.NodeUnary, "-", name("a")), name("b")))), program(node(api.NodeIf, name("a"), node(api.NodeIf, name("b"), empty()), empty())),
		program(wide(1 << 20)...), nested(1<<16 + 1), endless(),
		program(deleted(), name("a")), program(node(api.NodeBreak), node(api.NodeReturn, empty())),
		program(plain(api.Node{Kind: api.NodeString, Str: strings.Repeat("\x00a", 1<<22)}), plain(name("if"))),
	} {
		unwritten(t, n, api.ErrTree)
	}
}

// What is wrong ahead of all running is not written.
func TestSo2Early(t *testing.T) {
	one := api.Node{Kind: api.NodeNumber, Num: 1}
	object := func(l ...api.Node) api.Node { return plain(node(api.NodeObject, l...)) }
	for _, n := range []api.Node{
		deleted(), plain(operated(api.NodeAssign, "=", name("eval"), one)), plain(operated(api.NodeAssign, "+=", one, one)), plain(operated(api.NodePostfix, "++", name("arguments"))), node(api.NodeForIn, node(api.NodeThis), name("a"), empty()),
		named(api.NodeDeclare, "eval", node(api.NodeBody)), named(api.NodeDeclare, "f", name("a"), name("a"), node(api.NodeBody)), node(api.NodeVar, named(api.NodeDeclarator, "arguments")), node(api.NodeTry, block(), named(api.NodeCatch, "eval", block()), empty()),
		object(named(api.NodeProperty, "a", one), named(api.NodeProperty, "a", one)), named(api.NodeLabel, "a", named(api.NodeLabel, "a", empty())), node(api.NodeBreak), named(api.NodeBreak, "a"), node(api.NodeContinue), named(api.NodeContinue, "a"), node(api.NodeReturn), node(api.NodeReturn, one),
	} {
		n.Pos = 5
		unwritten(t, program(n), api.ErrSyntax)
		unwritten(t, program(empty(), n, deleted()), api.ErrSyntax)
		if n.Kind != api.NodeReturn {
			unwritten(t, program(named(api.NodeDeclare, "f", node(api.NodeBody, n))), api.ErrSyntax)
		}
	}
	for i := range 3000 {
		w := writer{draws(i), 10}
		h := read(w.program(1+i%4), api.MaxDepth)
		if h.errno != api.OK {
			continue
		}
		n := program(append(h.n.Kids, deleted())...)
		if _, errno := early.Check(n); errno != api.ErrSyntax {
			t.Fatalf("%s: error %d", seen(n), errno)
		}
		unwritten(t, n, api.ErrSyntax)
	}
}

// long is a tree whose text has so many units: a name's, and `;` and a line's end.
func long(units int, others ...api.Node) api.Node {
	for _, x := range others {
		s, _ := ast.Print(program(x))
		units -= ustr.Len(s)
	}
	return program(slices.Concat([]api.Node{plain(name(strings.Repeat("a", units-2)))}, others)...)
}

// A text may have 2^20 units. What layer 7 finds too long is told ahead of what is wrong
// in the tree, and what is longer than a source behind it.
func TestSo2Long(t *testing.T) {
	for _, units := range []int{1<<20 - 2, 1<<20 - 1, 1 << 20} {
		writes(t, long(units), strings.Repeat("a", units-2)+";\n")
		unwritten(t, long(units, deleted()), api.ErrSyntax)
	}
	for _, units := range []int{1<<20 + 1, 1<<20 + 2, 1<<21 - 1, 1 << 21} {
		unwritten(t, long(units), api.ErrLong)
		unwritten(t, long(units, deleted()), api.ErrSyntax)
		unwritten(t, long(units, empty(), plain(name("if"))), api.ErrTree)
	}
	for _, units := range []int{1<<21 + 1, 1<<21 + 2, 1 << 22} {
		unwritten(t, long(units), api.ErrLong)
		unwritten(t, long(units, deleted()), api.ErrLong)
		unwritten(t, long(units, empty(), plain(name("if"))), api.ErrTree)
	}
	// Units count as they are written, not as they are in the tree.
	for _, c := range []struct {
		unit  uint16
		times int
		want  api.Errno
	}{{0xE9, 174761, api.OK}, {0xE9, 174763, api.ErrLong}, {0xD800, 174761, api.OK}, {0xD800, 174763, api.ErrLong}, {'a', 1<<20 - 4, api.OK}, {'a', 1<<20 - 3, api.ErrLong}} {
		b, errno := source.Write(program(plain(text(slices.Repeat([]uint16{c.unit}, c.times)...))))
		if errno != c.want || (errno == api.OK) != (len(b) > 0) || len(b) > api.MaxSource {
			t.Errorf("%d times %X: %d bytes, error %d", c.times, c.unit, len(b), errno)
		}
	}
	writes(t, program(wide(1<<19)...), strings.Repeat(";\n", 1<<19))
	unwritten(t, program(wide(1<<19+1)...), api.ErrLong)
}

// Trees are written, though they are too deep to be read, or have too many tokens.
func TestSo2Unread(t *testing.T) {
	for _, levels := range []int{256, 257, 1000, 1 << 16} {
		n := nested(levels)
		writes(t, n, strings.Repeat("{\n", levels-2)+";\n"+strings.Repeat("}\n", levels-2))
	}
	for _, count := range []int{65535, 65536, 100000} {
		writes(t, program(wide(count)...), strings.Repeat(";\n", count))
	}
}
