package early_test

import (
	"strings"
	"testing"

	"quill/api"
)

// uses are sources in which ¦ stands ahead of what is assigned to, X.
func uses() []string {
	l := []string{"++¦X", "--¦X", "- ++¦X", "¦X++", "¦X--", "a = ¦X = b", "a, (¦X)++", "for (¦X in a);", "for (¦X in a) for (b in c);", "for (a in b) for (¦X in c);", "for (a in ¦X = b);", "(function () { ¦X++ })", "({get a() { ++¦X }})", "[a, b, ¦X++]", "f(¦X = a)", "if (¦X = a) b", "var a = ¦X = 1", "for (¦X = a; b; c);", "switch (¦X = a) {}", "throw ¦X = a"}
	for _, op := range strings.Fields("= *= /= %= += -= <<= >>= >>>= &= ^= |=") {
		l = append(l, "a, ¦X "+op+" b")
	}
	return l
}

// used are the uses of something.
func used(x string) []string {
	var l []string
	for _, s := range uses() {
		l = append(l, strings.Replace(s, "X", x, 1))
	}
	return l
}

func unmarked(l []string) []string {
	var told []string
	for _, s := range l {
		told = append(told, strings.Replace(s, "¦", "", 1))
	}
	return told
}

func TestEa1Targets(t *testing.T) {
	for _, x := range []string{"this", "null", "true", "false", "1", "0x1F", "'a'", "'eval'", "[]", "[a]", "{}", "{a: b}", "function () {}", "function f() {}", "new a", "new a()", "new a.b", "new eval(a)", "new new a()()"} {
		switch x[0] {
		case '{', 'f': // no statement begins so: the place is that of the expression within
			for _, s := range uses() {
				wrong(t, strings.Replace(s, "¦X", "(¦"+x+")", 1))
			}
		default:
			wrong(t, used(x)...)
		}
	}
	wrong(t, used("eval")...)
	wrong(t, used("arguments")...)
	wrong(t, used(`\u0065val`)...)
	for _, x := range []string{"a", "evals", "Eval", "argument", "arguments1", "eva", "callee", "undefined", "NaN", "a.b", "a.eval", "eval.a", "arguments.length", "a[b]", "arguments[0]", "eval['eval']", "a()", "eval()", "arguments()", "a.b()", "a()()", "eval(1).b", "new a().b", "new a()[b]", "new a()()", "this.a", "this[0]", "[].a", "'a'.b", "'eval'[0]", "1 .a", "(a, b).c", "(a = b)[c]", "(a + b)()", "(function () {})()", "(function () {}).eval", "({}).a"} {
		fine(t, unmarked(used(x))...)
	}
}

// What is no target may be anything.
func TestEa1NoTargets(t *testing.T) {
	fine(t, "eval", "arguments", "a = eval", "a += 1 + 2", "-eval", "typeof eval", "void arguments", "~1", "!this", "- -1", "+{}.a", "eval + arguments", "f(eval, arguments)", "new eval", "eval(a)", "eval.eval = eval", "arguments.arguments++", "eval[arguments] = 1", "for (a in eval);", "for (a in 1);", "for (var a in this);", "for (eval; arguments; eval);", "for (1; 2; 3);", "if (eval) arguments", "throw eval", "switch (eval) { case arguments: }", "var a = eval, b = arguments", "({eval: eval, arguments: arguments})", "({get eval() {}, set arguments(a) {}})", "[eval, arguments]", "eval ? arguments : eval", "eval, arguments", "eval && arguments", "do eval; while (arguments)", "a[1] = 2")
	wrong(t, "a = ¦1 = b", "¦1 = 2", "a = ¦eval = b", "a[¦eval = 1] = 2", "f(¦1 = 2)[3] = 4", "(¦this = 1).a = 2", "++a[++¦eval]")
}

// functions are sources with a name X, or parameters Y, of functions of each kind; the
// sign ¦ stands where the name's fault is, or the first parameter begins.
func functions() (withName, withParameters []string) {
	withName = []string{"¦function X() {}", "(¦function X() {})", "a = ¦function X(b) { c }", "function f() { ¦function X() {} }", "f(¦function X() {})", "({a: ¦function X() {}})", "while (a) (¦function X() {})", "if (a) b = ¦function X() {}", "new ¦function X() {}", "(¦function X() {}())", "(function X1() { (¦function X() {}) })"}
	withParameters = []string{"function f(¦Y) {}", "(function (¦Y) {})", "(function f(¦Y) { a })", "function f() { function g(¦Y) {} }", "({a: function (¦Y) {}})", "(function (b0, c0) { (function (¦Y) {}) })", "(function (a) { return function (¦Y) {} })"}
	return withName, withParameters
}

func TestEa1Functions(t *testing.T) {
	withName, withParameters := functions()
	for _, s := range withName {
		for _, x := range []string{"eval", "arguments", `ev\u0061l`} {
			wrong(t, strings.Replace(s, "X(", x+"(", 1))
		}
		for _, x := range []string{"a", "evals", "Arguments", "f", "b"} {
			fine(t, strings.Replace(strings.Replace(s, "¦", "", 1), "X(", x+"(", 1))
		}
	}
	for _, s := range withParameters {
		s = strings.Replace(s, "¦", "", 1)
		for _, y := range []string{"¦eval", "¦arguments", "a, ¦eval", "a, b, ¦arguments, c", "¦eval, eval", "¦arguments, arguments", "¦eval, a, a", "a, ¦a", "a, ¦a, a", "a, b, ¦a", "a, b, ¦b, a", "a, b, c, ¦b", "a, b, ¦a, b", "a, ¦a, eval", "a, ¦arguments, a", `a, ¦\u0061`, "aa, a, ¦aa"} {
			wrong(t, strings.Replace(s, "Y", y, 1))
		}
		for _, y := range []string{"", "a", "a, b", "a, b, c, d, e, f", "a, A, aa, aaa", "evals, argument", "f, g", "b0, c0"} {
			fine(t, strings.Replace(s, "Y", y, 1))
		}
	}
	wrong(t, "({set a(¦eval) {}})", "({set a(¦arguments) {}})", "({get b() {}, set a(¦eval) {}})", "a = {set eval(¦eval) {}}",
		"¦function eval(a, a) {}", "(¦function arguments(eval) {})", "(¦function eval() { eval = 1 })", "function f(a, ¦a) { eval = 1 }", "function f(a) { ¦eval = 1 }")
	// A parameter's name may be another function's, the function's own, or a variable's.
	fine(t, "({set a(b) {}, set b(b) {}})", "function f(f) {}", "(function a(a) {})", "function f(a) { var a; function a() {} }", "function f(a) {} function g(a) {}", "function f(a) { function g(a) {} }", "function f() {} function f() {}", "var f; function f() {}", "(function () {})", "(function () {}, function () {})", "f(a, a)", "new f(a, a)", "f(eval, eval)", "[a, a]")
}

func TestEa1Declarators(t *testing.T) {
	wrong(t, "var ¦eval", "var ¦arguments", "var ¦eval = 1", "var a, ¦eval", "var a = 1, ¦arguments = 2, eval", "var ¦eval, a", `var ¦\u0065val`, "for (var ¦eval;;) break;", "for (var a, ¦eval;;) break;", "for (var ¦arguments = 1; a; b);", "for (var ¦eval in a);", "for (var ¦arguments = 1 in a);", "if (a) var ¦eval", "{ var ¦arguments }", "while (a) var ¦eval", "try { var ¦eval } finally {}", "function f() { var ¦arguments }", "(function () { for (var ¦eval in a); })", "l: var ¦eval", "switch (a) { case b: var ¦eval }", "var ¦eval = eval = 1", "var a = ¦eval = 1")
	fine(t, "var a", "var a, a", "var a; var a", "var evals, Arguments", "for (var a in b);", "for (var a = 1, b;;) break;", "function f(a) { var a }", "for (var a = eval in arguments);")
}

func TestEa1Catches(t *testing.T) {
	wrong(t, "try {} ¦catch (eval) {}", "try {} ¦catch (arguments) {}", `try {} ¦catch (\u0061rguments) {}`, "try {} ¦catch (eval) {} finally {}", "try {} ¦catch (eval) { eval = 1 }", "try { ¦eval = 1 } catch (eval) {}", "try { try {} ¦catch (arguments) {} } catch (eval) {}", "try {} catch (a) { try {} ¦catch (eval) {} }", "(function () { try {} ¦catch (eval) {} })", "try {} finally { try {} ¦catch (eval) {} }", "try {} catch (a) { ¦eval = 1 }", "try {} catch (a) {} finally { ¦eval = 1 }")
	fine(t, "try {} catch (a) {}", "try {} catch (evals) {}", "try {} catch (a) { try {} catch (a) {} }", "try {} catch (a) { var a }", "try { eval() } catch (a) { arguments } finally { eval }", "function f(a) { try {} catch (a) {} }")
}

func TestEa1Deletes(t *testing.T) {
	wrong(t, "¦delete a", "¦delete (a)", "¦delete ((a))", "¦delete eval", "a = ¦delete b", "!¦delete a", "delete ¦delete a", "delete a[¦delete b]", "(¦delete a).b", "f(¦delete a)", "[¦delete a]", "if (¦delete a) b", "(function () { ¦delete a })", "(function a() { ¦delete a })", "function f(a) { ¦delete a }", "for (;¦delete a;);", "a ? ¦delete b : c", "({a: ¦delete b})", `¦delete \u0061`)
	fine(t, "delete a.b", "delete a[b]", "delete a()", "delete this", "delete 1", "delete 'a'", "delete null", "delete (a, b)", "delete (a = b)", "delete -a", "delete typeof a", "delete a++", "delete a.b.c", "delete {a: 1}", "delete [a]", "delete function a() {}", "delete new a", "delete (a ? b : c)", "delete delete a.b", "delete a.eval", "delete eval.a", "delete eval()", "typeof a", "void a", "-a", "+a", "!a", "~a", "++a")
}

func TestEa1Returns(t *testing.T) {
	wrong(t, "¦return", "¦return a", "{ ¦return }", "if (a) ¦return", "if (a); else ¦return b", "while (a) ¦return", "do ¦return; while (a)", "for (;;) ¦return", "for (a in b) ¦return", "l: ¦return", "switch (a) { case b: ¦return }", "switch (a) { default: ¦return }", "try { ¦return } finally {}", "try {} catch (a) { ¦return }", "try {} finally { ¦return }", "function f() {} ¦return", "(function () { return }); ¦return", "function f() { return } ¦return f", "{ { ¦return (function () { return }) } }", "¦return eval = 1", "¦return delete a")
	fine(t, "function f() { return }", "(function () { return a })", "({get a() { return }})", "({set a(b) { return }})", "function f() { while (a) { if (b) return; else return c } }", "(function () { return function () { return } })", "function f() { function g() {} return }", "function f() { (function () {}); return g }", "function f() { switch (a) { case b: return; default: return } }", "function f() { try { return } catch (a) { return } finally { return } }", "function f() { l: return }")
}

// Of what is wrong that is told which is met first: a node ahead of its Kids, these in
// order.
func TestEa1First(t *testing.T) {
	wrong(t,
		"¦eval = eval = 1", "a = ¦eval = arguments = 1", "¦eval = 1; arguments = 2", "a; ¦eval = 1; eval = 1", "[¦eval = 1, eval = 2]",
		"f(¦eval = 1).a = eval = 2", "(¦eval = 1)[eval = 2] = eval = 3", "if (¦eval = 1) eval = 2; else eval = 3", "do ¦eval = 1; while (eval = 2)", "while (¦eval = 1) eval = 2",
		"for (¦eval = 1; eval = 2; eval = 3) eval = 4", "for (;¦eval = 2; eval = 3) eval = 4", "for (;; ¦eval = 3) eval = 4", "for (¦eval in eval = 1) eval = 2", "for (a in ¦eval = 1) eval = 2", "for (var ¦eval = eval = 1 in a);", "for (var a = ¦eval = 1 in eval = 2);",
		"switch (¦eval = 1) { case eval = 2: eval = 3 }", "switch (a) { case ¦eval = 2: eval = 3 }", "switch (a) { case b: ¦eval = 3; case eval = 4: }", "switch (a) { default: ¦return; case eval = 1: }",
		"try { ¦return } catch (eval) { return } finally { return }", "try {} ¦catch (eval) { return } finally { return }", "try {} catch (a) { ¦break } finally { return }", "try {} finally { ¦continue } break",
		"a ? ¦eval = 1 : (arguments = 2)", "(¦eval = 1) ? eval = 2 : 3", "(¦eval = 1) + (eval = 2)", "(¦eval = 1, eval = 2)", "a || (¦eval = 1)", "new (¦eval = 1)(eval = 2)",
		"({a: ¦eval = 1, a: 2})", "({a: 1, ¦a: eval = 2})", "({a: 1, ¦get a() { return eval = 1 }})", "({a: ¦function eval() {}, a: 1})",
		"¦function eval() { return eval = 1 }", "function f(¦eval) { eval = 1 }", "function f() { ¦eval = 1 } function eval() {}", "var a = ¦eval = 1, eval", "¦delete a, delete b", "l: { ¦l: break m; } ", "l: l1: { break l; ¦break m; l: ; }",
		"¦break; continue; return", "while (a) break; ¦return", "¦1 = eval = 2", "¦[eval = 1] = 2", "(¦{a: 1, a: 2}) = 3", "(¦function eval() {}) = 1", "++¦eval, --arguments", "(¦function (a, a) {})++")
}

// A tree that is refused by layer 7 is told ahead of what is wrong in it; a place that
// is below 0, or 0, is told like others.
func TestEa1Trees(t *testing.T) {
	wrong := plain(assign(name("eval"), name("a")))
	checked(t, program(wrong), 0, api.ErrSyntax)
	for _, place := range []int{-1 << 63, -1, 0, 1, 1<<63 - 1} {
		moved := copied(program(wrong))
		moved.Kids[0].Kids[0].Kids[0].Pos = place
		moved.Pos = 7
		checked(t, moved, place, api.ErrSyntax)
	}
	for _, n := range []api.Node{
		{}, wrong, name("eval"), body(wrong), block(wrong), named(api.NodeFunction, "", body()), named(api.NodeDeclare, "f", body()),
		program(wrong, node(api.NodeExpr)), program(wrong, name("a")), program(wrong, program()), program(wrong, body()), program(block(named(api.NodeDeclare, "f", body())), wrong),
		program(wrong, named(api.NodeLabel, "if", empty())), program(wrong, named(api.NodeFunction, "f", body())), program(wrong, node(99)), program(wrong, node(-1)), {Kind: api.NodeProgram, Str: "a", Kids: []api.Node{wrong}}, {Kind: api.NodeProgram, Op: "+"},
		program(plain(assign(api.Node{Kind: api.NodeUnary, Op: "-", Kids: []api.Node{name("eval")}}, name("a")))), program(named(api.NodeBreak, "break")), program(named(api.NodeDeclare, "", body())), program(plain(node(api.NodeFunction, name("a")))),
		program(node(api.NodeVar)), program(variable("")), program(node(api.NodeSwitch)), program(node(api.NodeForIn)), program(plain(node(api.NodeAssign))), program(plain(api.Node{Kind: api.NodeUnary, Op: "delete"})), program(node(api.NodeLabel)),
	} {
		refused(t, n)
	}
}

// A tree may have 2^20 nodes and 2^16 levels.
func TestEa1Limits(t *testing.T) {
	checked(t, wide(1<<20), 0, api.OK)
	refused(t, wide(1<<20+1))
	checked(t, deep(1<<16), 0, api.OK)
	refused(t, deep(1<<16+1))
	refused(t, endless())
	refused(t, program(doubled(60, empty())))
	leaving := api.Node{Kind: api.NodeBreak, Pos: 9}
	checked(t, program(doubled(18, leaving)), 9, api.ErrSyntax)
	full := wide(1 << 20)
	full.Kids[len(full.Kids)-1] = leaving
	checked(t, full, 9, api.ErrSyntax)
	full.Kids = append(full.Kids, empty())
	refused(t, full)
}

// Lists of nodes that lie at one place are what they are where they stand.
func TestEa1SharedKids(t *testing.T) {
	l := []api.Node{name("eval"), name("eval")}
	checked(t, program(plain(node(api.NodeComma, l...)), plain(node(api.NodeCall, l...)), plain(node(api.NodeArray, l...))), 0, api.OK)
	changed := assign(l[0], l[1])
	changed.Kids = l
	checked(t, program(plain(node(api.NodeComma, l...)), plain(changed)), 0, api.ErrSyntax)
	again := named(api.NodeLabel, "l", named(api.NodeBreak, "l"))
	checked(t, program(again, again, block(again, again)), 0, api.OK)
	object := node(api.NodeObject, named(api.NodeProperty, "a", name("b")))
	checked(t, program(plain(node(api.NodeArray, object, object))), 0, api.OK)
	back := []api.Node{node(api.NodeReturn)}
	checked(t, program(plain(named(api.NodeFunction, "", node(api.NodeBody, back...)))), 0, api.OK)
	checked(t, program(plain(named(api.NodeFunction, "", node(api.NodeBody, back...))), node(api.NodeBlock, back...)), 0, api.ErrSyntax)
}
