package early_test

import (
	"strconv"
	"strings"
	"testing"

	"quill/api"
	"quill/ustr"
)

// loops are the four of them, about a statement X.
func loops() []string {
	return []string{"do { X } while (a);", "while (a) X", "for (;;) X", "for (a in b) X", "for (var a;;) X", "for (var a in b) X"}
}

// plains are statements about one X that are neither loops nor switches.
func plains() []string {
	return []string{"X", "{ X }", "{ a; X b }", "if (a) X", "if (a) { X } else b;", "if (a); else X", "try { X } finally {}", "try {} catch (a) { X }", "try {} finally { X }", "n: X", "n: { X }"}
}

// switches are about a statement X.
func switches() []string {
	return []string{"switch (a) { case b: X }", "switch (a) { default: X }", "switch (a) { case b: ; case c: d; X default: }", "switch (a) { default: case b: X }"}
}

// cut are functions about a statement X.
func cut() []string {
	return []string{"(function () { X });", "(function () { function f() { X } });", "a = {get b() { X }};", "a = {set b(c) { X }};", "a(function f(b) { X });", "f(function () { return 1 }, function () { X });"}
}

func fill(s, x string) string { return strings.Replace(s, "X", x, 1) }

// A break and a continue without a label stand in a loop, or the one in a switch.
func TestEa1Breaks(t *testing.T) {
	for _, p := range plains() {
		wrong(t, fill(p, "¦break;"), fill(p, "¦continue;"))
		for _, l := range loops() {
			for _, s := range []string{fill(l, fill(p, "X;")), fill(p, fill(l, "{ X }")+";")} {
				fine(t, fill(s, "break"), fill(s, "continue"))
			}
			wrong(t, fill(p, "{ "+fill(l, ";")+" ¦break; }"), fill(p, "{ "+fill(l, ";")+" ¦continue; }"), fill(p, "{ ¦break; "+fill(l, ";")+" }"))
		}
		for _, s := range switches() {
			fine(t, fill(s, fill(p, "break;")), fill(p, fill(s, "break;")))
			wrong(t, fill(s, fill(p, "¦continue;")), fill(p, fill(s, "¦continue;")), fill(p, "{ "+fill(s, ";")+" ¦break }"))
			for _, l := range loops() {
				fine(t, fill(l, fill(s, "continue;")+";"), fill(l, fill(s, "break;")+";"), fill(s, fill(l, "{ continue }")+";"))
				wrong(t, fill(s, fill(l, ";")+" ¦continue;"))
			}
		}
	}
	fine(t, "while (a) { b; break; continue; break }", "while (a) if (b) break; else continue", "while (a) while (b) { break; continue }", "while (a) { while (b); break; continue }", "for (;;) { switch (a) {} continue }")
}

// What stands about a function does not stand about what is within it: no loop, no
// switch, no label; and behind it stands what stood ahead.
func TestEa1CutByFunctions(t *testing.T) {
	for _, f := range cut() {
		for _, l := range append(loops(), switches()...) {
			block := fill(l, "{ "+f+" }")
			wrong(t, fill(block, "¦break"), fill(block, "¦continue"), "l: "+fill(block, "¦break l"), "l: "+fill(block, "¦continue l"))
			fine(t, "l: "+fill(block, "l: ;"), "l: "+fill(block, "l: while (a) { break l; continue l; break; continue }"))
			fine(t, "l: "+fill(l, "{ "+fill(f, "")+" break; break l }"))
		}
		wrong(t, "while (a) { "+fill(f, "while (a); ¦break")+" }", fill(f, "while (a) break; ¦continue"), fill(f, "l: ; ¦break l"), fill(f, "")+" ¦return", fill(f, "while (a) break;")+" ¦break", fill(f, "l: while (a) continue l;")+" ¦continue l", fill(f, "l: ;")+" ¦break l")
		wrong(t, "l: { "+fill(f, "l: ;")+" ¦l: ; }", fill(f, "l: { ¦l: ; }"), "l: m: while (a) { "+fill(f, "m: { ¦continue l }")+" }")
	}
	wrong(t, "while ((function () { ¦break })()) ;", "for (;;(function () { ¦continue })()) ;", "do ; while (function () { ¦break })", "switch (function () { ¦break }) {}", "switch (a) { case function () { ¦break }: }", "l: a = function () { ¦break l }")
}

func TestEa1Labels(t *testing.T) {
	wrong(t,
		"l: ¦l: ;", "l: { ¦l: ; }", "l: m: ¦l: ;", "l: m: ¦m: ;", "l: while (a) ¦l: ;", "l: if (a) b; else ¦l: ;", "l: { m: { ¦l: ; } }", "l: { m: ; ¦l: ; }", "l: switch (a) { case b: ¦l: ; }", "l: try { ¦l: ; } finally {}", "l: try {} catch (l) { ¦l: ; }", "l: { ¦l: l: ; }", "l: { m: n: ¦l: ; }", "l: do ¦l: ; while (a)",
		"m: { l: ; l: { ¦l: ; } }", `l: ¦\u006c: ;`, "eval: ¦eval: ;", "l: m: while (a) ¦m: continue l",
		"¦break l", "¦continue l", "m: ¦break l", "m: { ¦break l }", "while (a) ¦break l", "while (a) ¦continue l", "l: ; ¦break l", "l: {} ¦break l", "l: while (a); ¦continue l", "switch (a) { case l: ¦break l }", "{ l: ; ¦break l; }", "l: ; m: ¦break l", "var l; ¦break l", "l: m: ; ¦break m", "ll: ¦break l", "l: ¦break ll", "l: ¦break L",
		"l: ¦continue l", "l: { ¦continue l }", "l: { while (a) ¦continue l }", "l: if (a) while (b) ¦continue l", "l: try { while (a) ¦continue l } finally {}", "l: switch (a) { case b: ¦continue l }", "l: { m: while (a) ¦continue l }", "while (a) l: ¦continue l", "while (a) l: { ¦continue l }", "while (a) { l: m: ; ¦continue l }", "l: m: { while (a) ¦continue m }", "m: while (a) l: { ¦continue l }", "while (a) { l: { ¦continue l } }", "l: { m: while (a) { continue m; ¦continue l } }",
	)
	fine(t,
		"l: ;", "l: m: ;", "l: ; l: ;", "l: ; m: l: ;", "{ l: ; } l: ;", "{ l: ; l: ; }", "l: { m: ; m: ; n: m: ; }", "if (a) l: ; else l: ;", "switch (a) { case b: l: ; case c: l: ; }", "try { l: ; } catch (a) { l: ; } finally { l: ; }", "l: (function () { l: ; })", "(function () { l: ; }); l: ;", "l: while (a) { m: ; m: ; }", "eval: arguments: ;", "l: var l", "l: L: ll: ;",
		"l: break l", "l: { break l }", "l: { a; { break l } }", "l: m: break l", "l: m: break m", "l: m: { break l; break m }", "l: while (a) break l", "l: { while (a) break l }", "l: switch (a) { case b: break l }", "l: if (a) break l; else break l", "l: try { break l } catch (a) { break l } finally { break l }", "while (a) l: break l", "l: for (;;) m: for (;;) { break l; break m; break }", "eval: break eval",
		"l: while (a) continue l", "l: do continue l; while (a)", "l: for (;;) continue l", "l: for (a in b) continue l", "l: for (var a;;) continue l", "l: for (var a in b) continue l", "a: b: while (1) continue a;", "a: b: while (1) continue b;", "a: b: c: while (1) { continue a; continue b; continue c }", "l: while (a) { b; { continue l } }", "l: while (a) while (b) continue l", "l: while (a) m: while (b) { continue l; continue m; continue }", "l: while (a) { m: { continue l } }", "l: while (a) switch (b) { case c: continue l }", "l: while (a) m: break m", "m: { l: while (a) { continue l; break m } }", "l: while (a) try { continue l } finally { continue l }", "while (a) { l: while (b); l: while (c) continue l }", "l: while (a) { m: while (b); continue l }", "l: while (a) { m: n: ; continue l }", "l: while (a) { m: while (b) { n: ; continue m } continue l }",
	)
}

// All that stands in each other of loops, labels and others, a few levels deep, about
// each jump, held against the rules.
func TestEa1AllJumps(t *testing.T) {
	all := rules()
	met := map[string]int{}
	outer := []string{"l: X", "m: X", "while (a) X", "do X while (a);", "{ X; b }", "if (a) X", "switch (a) { case b: X }", "(function () { X });"}
	var build func(s string, levels int)
	build = func(s string, levels int) {
		for _, x := range []string{"break;", "break l;", "continue;", "continue l;", "continue m;", "l: ;", "return;", "a: break l;"} {
			met[judged(t, tree(t, fill(s, x)), all)]++
		}
		if levels > 0 {
			for _, x := range outer {
				build(fill(s, x), levels-1)
			}
		}
	}
	build("X", 4)
	for _, k := range []string{"", "label", "break with label", "break", "continue with label", "continue", "return"} {
		if met[k] < 500 {
			t.Errorf("met were %v", met)
			break
		}
	}
}

// Labels may be as many as a tree lets, one in the other, and each may be asked for
// many times.
func TestEa1ManyLabels(t *testing.T) {
	const many = 30000
	for _, kind := range []int{api.NodeBlock, api.NodeWhile} {
		var jumps []api.Node
		for i := range 800000 {
			s := "l" + strconv.Itoa(i%2*(many-1))
			jumps = append(jumps, api.Node{Kind: api.NodeBreak, Str: ustr.Wide(s)})
		}
		n := block(jumps...)
		if kind == api.NodeWhile {
			for i := range jumps {
				jumps[i].Kind = api.NodeContinue
			}
			n = node(api.NodeWhile, name("a"), n)
		}
		last := &jumps[len(jumps)-1]
		for i := many - 1; i >= 0; i-- {
			n = named(api.NodeLabel, "l"+strconv.Itoa(i), n)
		}
		checked(t, program(n), 0, api.OK)
		*last = api.Node{Kind: last.Kind, Str: ustr.Wide("l" + strconv.Itoa(many)), Pos: 6}
		checked(t, program(n), 6, api.ErrSyntax)
		again := named(api.NodeLabel, "l"+strconv.Itoa(many/2), n)
		again.Pos = 3
		checked(t, program(named(api.NodeLabel, "k", again)), 0, api.ErrSyntax)
	}
}
