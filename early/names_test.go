package early_test

import (
	"slices"
	"strconv"
	"testing"

	"quill/api"
	"quill/early"
	"quill/ustr"
)

func TestEa2Names(t *testing.T) {
	for src, want := range map[string]string{
		"": "", ";": "", "a": "", "a = b": "", "a: b": "", "debugger": "",
		"var a": "a", "var a, b, c": "a b c", "var b, a": "b a", "var a = 1, b = a": "a b", "var a; var b": "a b", "var a; var a": "a", "var a, a": "a", "var b, a, b, c, a": "b a c", "var a; b; var c": "a c",
		"function a() {}": "a", "function b() {} function a() {}": "b a", "function a() {} function a() {}": "a", "function a() {} function b() {} function a() {}": "a b",
		"var a; function b() {}": "b a", "var a; function a() {}": "a", "var b; function a() {} var c; function d() {}": "a d b c", "var a, b; function b() {} var c": "b a c", "function a() {} var a, b": "a b",
		"var eval; function arguments() {}": "arguments eval", "return; var a; break": "a", "l: l: var a": "a", "delete a; var b": "b",
		"{ var a }": "a", "{ { var a } var b }": "a b", "if (a) var b": "b", "if (a) var b; else var c": "b c", "do var a; while (b)": "a", "while (a) var b": "b", "for (var a;;) ;": "a", "for (var a, b = 1; c; d) var e": "a b e", "for (;;) var a": "a", "for (var a in b) var c": "a c", "for (var a = b in c);": "a", "for (a in b) var c": "c", "l: var a": "a", "l: m: { var a }": "a",
		"switch (a) { case b: var c; default: var d; case e: var f, c }": "c d f", "try { var a } catch (b) { var c } finally { var d }": "a c d", "try {} catch (a) {}": "", "try {} catch (a) { var a }": "a", "throw a; var b": "b",
		"function f(a) { var b; function c() {} }": "f", "(function f(a) { var b; function c() {} })": "", "var a = function b(c) { var d }": "a", "var a = function () { var b }, c": "a c", "a = {get b() { var c }, set d(e) { var f }, g: function () { var h }}": "", "for (var a = function () { var b };;);": "a", "while (function () { var a }) var b": "b", "function a() { var a }": "a", "function a() { function b() { var c } } var d": "a d", "var a = {b: [function () { var c }]}, d": "a d", "(function () { var a })(); var a": "a", "function f() { { var a } } { var b }": "f b", "var z; (function () { var y }); var x": "z x",
		"var a; function b() { var c } { var d } for (var e in a) var a; function a() {}": "b a d e",
	} {
		n := tree(t, src)
		names(t, n, want)
		names(t, body(n.Kids...), want)
		for _, kind := range []int{api.NodeFunction, api.NodeDeclare} {
			names(t, named(kind, "f", name("x"), name("y"), body(n.Kids...)), want)
			names(t, named(kind, "", body(n.Kids...)), want)
		}
		function := tree(t, "(function g(h, i) {"+src+"})")
		names(t, function, "")
		names(t, function.Kids[0].Kids[0], want)
		names(t, tree(t, "function g(h, i) {"+src+"}").Kids[0], want)
		getter := tree(t, "({get a() {"+src+"}})").Kids[0].Kids[0].Kids[0]
		names(t, getter.Kids[0], want)
		nameless(t, getter)
	}
}

// Each node of drawn trees tells the names that stand in it, or none.
func TestEa2Drawn(t *testing.T) {
	long := 0
	for i := range 5000 {
		n := tree(t, writer{draws(i), 20}.program(1+i%4))
		each(&n, func(x *api.Node) {
			switch x.Kind {
			case api.NodeProgram, api.NodeBody, api.NodeFunction, api.NodeDeclare:
				l, errno := early.Names(*x)
				if want := declared(x); !slices.Equal(l, want) || errno != api.OK {
					t.Errorf("in %s: %q, error %d, not %q", seen(n), encoded(l), errno, encoded(want))
				}
				if len(l) > 3 {
					long++
				}
			default:
				nameless(t, *x)
			}
		})
	}
	if long < 500 {
		t.Errorf("%d bodies had many names", long)
	}
}

// Only a function's last one of its Kids counts, and of a program and a body the Kids
// alone.
func TestEa2OnlyStatements(t *testing.T) {
	a := variable("a")
	for _, kind := range []int{api.NodeFunction, api.NodeDeclare} {
		names(t, node(kind, body(a)), "a")
		names(t, named(kind, "if", body(a)), "a")
		names(t, node(kind, name("if"), node(99), endless(), body(variable("b")), body(a)), "a")
		names(t, api.Node{Kind: kind, Op: "+", Flag: true, Num: 1, Kids: []api.Node{{Kind: api.NodeBody, Str: "\x00", Kids: []api.Node{a}}}}, "a")
		nameless(t, node(kind))
		nameless(t, node(kind, a))
		nameless(t, node(kind, name("a")))
		nameless(t, node(kind, body(a), name("a")))
		nameless(t, node(kind, block(a)))
		nameless(t, node(kind, program(a)))
		nameless(t, node(kind, node(kind, body(a))))
	}
	for _, kind := range []int{api.NodeProgram, api.NodeBody} {
		names(t, api.Node{Kind: kind, Op: "+", Str: "\x00", Num: 1, Flag: true, Kids: []api.Node{a}, Pos: -1}, "a")
	}
}

// What layer 7 refuses as a program's statements has no names.
func TestEa2Refused(t *testing.T) {
	for _, l := range [][]api.Node{
		{name("a")}, {body()}, {program()}, {{}}, {node(99)}, {node(api.NodeDeclarator)}, {named(api.NodeDeclarator, "a")}, {named(api.NodeDeclare, "", body())}, {named(api.NodeDeclare, "if", body())}, {variable("if")}, {variable("")}, {node(api.NodeVar)}, {block(named(api.NodeDeclare, "f", body()))}, {node(api.NodeIf)}, {node(api.NodeLabel)}, {plain(empty())}, {named(api.NodeFunction, "f", body())}, {named(api.NodeDeclare, "f", block())}, {named(api.NodeDeclare, "f", body(name("a")))}, {named(api.NodeDeclare, "f", name("if"), body())},
	} {
		for _, l := range [][]api.Node{l, append([]api.Node{variable("a")}, l...)} {
			nameless(t, program(l...))
			nameless(t, body(l...))
			nameless(t, node(api.NodeFunction, body(l...)))
			nameless(t, node(api.NodeDeclare, name("a"), body(l...)))
		}
	}
	for kind := -3; kind < 70; kind++ {
		if kind != api.NodeProgram && kind != api.NodeBody {
			nameless(t, node(kind))
			nameless(t, node(kind, variable("a")))
		}
		if kind != api.NodeProgram && kind != api.NodeBody && kind != api.NodeFunction && kind != api.NodeDeclare {
			nameless(t, node(kind, body(variable("a"))))
			nameless(t, named(kind, "a", name("b"), body(variable("a"))))
		}
	}
}

// The limits are those of the program of a body's statements.
func TestEa2Limits(t *testing.T) {
	both := func(n api.Node, f func(t *testing.T, n api.Node)) {
		f(t, n)
		f(t, body(n.Kids...))
		f(t, named(api.NodeFunction, "f", name("a"), body(n.Kids...)))
	}
	told := func(t *testing.T, n api.Node) { t.Helper(); names(t, n, "") }
	both(wide(1<<20), told)
	both(wide(1<<20+1), nameless)
	both(deep(1<<16), told)
	both(deep(1<<16+1), nameless)
	both(endless(), nameless)
	both(program(doubled(60, empty())), nameless)
	names(t, program(doubled(17, variable("a"))), "a")
}

// Names may be as many as a tree lets.
func TestEa2Many(t *testing.T) {
	const many = 200000
	n := program()
	var want []string
	for range 2 {
		for i := range many {
			s := "v" + strconv.Itoa(i)
			n.Kids = append(n.Kids, variable(s))
			if len(want) < many {
				want = append(want, ustr.Wide(s))
			}
		}
	}
	if l, errno := early.Names(n); !slices.Equal(l, want) || errno != api.OK {
		t.Errorf("%d names, error %d", len(l), errno)
	}
}
