package ast_test

import (
	"math"
	"strings"
	"testing"

	"quill/api"
	"quill/ast"
	"quill/ustr"
)

func TestExamples(t *testing.T) {
	a, b, c := name("a"), name("b"), name("c")
	for want, x := range map[string]api.Node{
		"a = b + c * d;\n": assign("=", a, binary("+", b, binary("*", c, name("d")))),
		"(a + b) * c;\n":   binary("*", binary("+", a, b), c),
		"- -a;\n":          unary("-", unary("-", a)),
		"({}.x);\n":        member(node(api.NodeObject), "x"),
		"new (f())();\n":   construct(call(name("f"))),
	} {
		prints(t, program(plain(x)), want)
	}
}

func TestAs1PrintExpressions(t *testing.T) {
	a, b, c, f := name("a"), name("b"), name("c"), function(api.NodeFunction, "")
	object := node(api.NodeObject)
	in := binary("in", a, b)
	for want, x := range map[string]api.Node{
		"this":                           leaf(api.NodeThis),
		"null":                           leaf(api.NodeNull),
		"true":                           truth(true),
		"false":                          truth(false),
		`\u00E9\uD800$1`:                 {Kind: api.NodeName, Str: ustr.Make([]uint16{0xE9, 0xD800, '$', '1'})},
		"0":                              number(0),
		"1e+21":                          number(1e21),
		"1e-7":                           number(1e-7),
		"0.5":                            number(.5),
		"1e999":                          number(math.Inf(1)),
		"1.7976931348623157e+308":        number(math.MaxFloat64),
		`"a\"\\\u000A'\u00E9"`:           text("a\"\\\n'\xE9"),
		"[]":                             node(api.NodeArray),
		"[,]":                            node(api.NodeArray, hole()),
		"[, ,]":                          node(api.NodeArray, hole(), hole()),
		"[a, , (b, c)]":                  node(api.NodeArray, a, hole(), comma(b, c)),
		"[a, ,]":                         node(api.NodeArray, a, hole()),
		"a.if":                           member(a, "if"),
		`a.\u00E9`:                       member(a, "\xE9"),
		"(1).a":                          member(number(1), "a"),
		"(0.5).a":                        member(number(.5), "a"),
		"1[a]":                           index(number(1), a),
		"1()":                            call(number(1)),
		`"a".b`:                          member(text("a"), "b"),
		"(-a).b":                         member(unary("-", a), "b"),
		"(a + b)[b, c]":                  index(binary("+", a, b), comma(b, c)),
		"a()(b, (b, c), a = b)":          call(call(a), b, comma(b, c), assign("=", a, b)),
		"(a = b)()":                      call(assign("=", a, b)),
		"new a()":                        construct(a),
		"new a.b(a, b)":                  construct(member(a, "b"), a, b),
		"new new a()()":                  construct(construct(a)),
		"new (a())()":                    construct(call(a)),
		"new (a().b)()":                  construct(member(call(a), "b")),
		"new (a().b[c].d)()":             construct(member(index(member(call(a), "b"), c), "d")),
		"new (a + b).c()":                construct(member(binary("+", a, b), "c")),
		"new (new (a())().b())()":        construct(call(member(construct(call(a)), "b"))),
		"new a().b()":                    call(member(construct(a), "b")),
		"new function() {\n}()":          construct(f),
		"new a[b()]()":                   construct(index(a, call(b))),
		"delete a":                       unary("delete", a),
		"void -a":                        unary("void", unary("-", a)),
		"typeof (a + b)":                 unary("typeof", binary("+", a, b)),
		"typeof typeof a":                unary("typeof", unary("typeof", a)),
		"-typeof a":                      unary("-", unary("typeof", a)),
		"- --a":                          unary("-", unary("--", a)),
		"+ ++a":                          unary("+", unary("++", a)),
		"-++a":                           unary("-", unary("++", a)),
		"+-a":                            unary("+", unary("-", a)),
		"! !a":                           unary("!", unary("!", a)),
		"~ ~a":                           unary("~", unary("~", a)),
		"~!a":                            unary("~", unary("!", a)),
		"++a":                            unary("++", a),
		"--a.b":                          unary("--", member(a, "b")),
		"-(a, b)":                        unary("-", comma(a, b)),
		"-a++":                           unary("-", postfix("++", a)),
		"-1":                             unary("-", number(1)),
		"a++":                            postfix("++", a),
		"a()--":                          postfix("--", call(a)),
		"new a()--":                      postfix("--", construct(a)),
		"(a++).b":                        member(postfix("++", a), "b"),
		"a - -b":                         binary("-", a, unary("-", b)),
		"a + ++b":                        binary("+", a, unary("++", b)),
		"a - b - c":                      binary("-", binary("-", a, b), c),
		"a - (b - c)":                    binary("-", a, binary("-", b, c)),
		"a * b % c":                      binary("%", binary("*", a, b), c),
		"a in b":                         in,
		"a instanceof b < c":             binary("<", binary("instanceof", a, b), c),
		"a && b && c":                    logical("&&", logical("&&", a, b), c),
		"a && (b && c)":                  logical("&&", a, logical("&&", b, c)),
		"a || b && c":                    logical("||", a, logical("&&", b, c)),
		"(a || b) && c":                  logical("&&", logical("||", a, b), c),
		"(a && b) | c":                   binary("|", logical("&&", a, b), c),
		"a ? b : c":                      choice(a, b, c),
		"(a ? b : c) ? a : b":            choice(choice(a, b, c), a, b),
		"a ? b ? a : b : b ? a : c":      choice(a, choice(b, a, b), choice(b, a, c)),
		"a ? b = c : c = a":              choice(a, assign("=", b, c), assign("=", c, a)),
		"a ? (a, b) : (b, c)":            choice(a, comma(a, b), comma(b, c)),
		"(a = b) ? a : b":                choice(assign("=", a, b), a, b),
		"a = b = c":                      assign("=", a, assign("=", b, c)),
		"a >>>= b ? a : c":               assign(">>>=", a, choice(b, a, c)),
		"a *= (b, c)":                    assign("*=", a, comma(b, c)),
		"a() = b":                        assign("=", call(a), b),
		"1 = 2":                          assign("=", number(1), number(2)),
		"(a = b) + c":                    binary("+", assign("=", a, b), c),
		"a, b, c":                        comma(comma(a, b), c),
		"a, (b, c)":                      comma(a, comma(b, c)),
		"a = b, c":                       comma(assign("=", a, b), c),
		"({})":                           object,
		"({}, a)":                        comma(object, a),
		"a, {}":                          comma(a, object),
		"({}[a] = b)":                    assign("=", index(object, a), b),
		"({} + a ? b : c)":               choice(binary("+", object, a), b, c),
		"({}.a()++)":                     postfix("++", call(member(object, "a"))),
		"-{}":                            unary("-", object),
		"(-{}).a":                        member(unary("-", object), "a"),
		"({} = a).b":                     member(assign("=", object, a), "b"),
		"[{}]":                           node(api.NodeArray, object),
		"new {}()":                       construct(object),
		"(function() {\n})":              f,
		"(function() {\n}())":            call(f),
		"(function a(b, c) {\n} in {})":  binary("in", function(api.NodeFunction, "a", "b", "c"), object),
		"functions(a)":                   call(name("functions"), a),
		"a = function() {\n}":            assign("=", a, f),
		"(function() {\n} && a)":         logical("&&", f, a),
		"function$()":                    call(name("function$")),
		"a = {\"b\": c, \"\": (a, b)}":   assign("=", a, node(api.NodeObject, named(api.NodeProperty, "b", c), named(api.NodeProperty, "", comma(a, b)))),
		"({get \"a\"() {\n}})":           node(api.NodeObject, named(api.NodeGetter, "a", f)),
		"({set \"\\u000A\"(get) {\n}})":  node(api.NodeObject, named(api.NodeSetter, "\n", function(api.NodeFunction, "", "get"))),
		"({\"get\": get})":               node(api.NodeObject, named(api.NodeProperty, "get", name("get"))),
		"a = function() {\nb;\n;\n}":     assign("=", a, node(api.NodeFunction, body(plain(b), empty()))),
		"(function f() {\n({});\n})":     named(api.NodeFunction, "f", body(plain(object))),
		"a(function() {\n({}.b);\n}, c)": call(a, node(api.NodeFunction, body(plain(member(object, "b")))), c),
	} {
		prints(t, program(plain(x)), want+";\n")
	}
}

// Each operator of two stands ahead of and behind each other one as it is, if the
// levels let it.
func TestAs1PrintLevels(t *testing.T) {
	a, b, c := name("a"), name("b"), name("c")
	two := func(op string, x, y api.Node) api.Node {
		if op == "||" || op == "&&" {
			return logical(op, x, y)
		}
		return binary(op, x, y)
	}
	levels := opLevels()
	if len(levels) != 23 {
		t.Fatalf("%d operators", len(levels))
	}
	for p, k := range levels {
		for q, l := range levels {
			left, right := "a "+p+" b", "b "+q+" c"
			if k < l {
				left = "(" + left + ")"
			}
			prints(t, program(plain(two(q, two(p, a, b), c))), left+" "+q+" c;\n")
			if l <= k {
				right = "(" + right + ")"
			}
			prints(t, program(plain(two(p, a, two(q, b, c)))), "a "+p+" "+right+";\n")
		}
	}
}

func TestAs1PrintStatements(t *testing.T) {
	a, b, c := name("a"), name("b"), name("c")
	loop := func(l ...api.Node) api.Node { return node(api.NodeFor, append(l, empty())...) }
	for want, l := range map[string][]api.Node{
		"":                              nil,
		";\n;\n":                        {empty(), empty()},
		"function a() {\n}\n":           {function(api.NodeDeclare, "a")},
		"function \\u00E9(a, b) {\n}\n": {named(api.NodeDeclare, "\xE9", a, b, body())},
		"function a(b, b) {\nfunction b() {\n}\nreturn;\n}\n": {named(api.NodeDeclare, "a", b, b, body(function(api.NodeDeclare, "b"), node(api.NodeReturn)))},
		"{\n}\n":                                 {block()},
		"{\na;\n{\n}\n}\n":                       {block(plain(a), block())},
		"var a;\n":                               {declarators(declarator("a"))},
		"var a = b, c, a = (b, c);\n":            {declarators(declarator("a", b), declarator("c"), declarator("a", comma(b, c)))},
		"var a = b in c;\n":                      {declarators(declarator("a", binary("in", b, c)))},
		"var a = {};\n":                          {declarators(declarator("a", node(api.NodeObject)))},
		"var \\u00E9;\n":                         {declarators(declarator("\xE9"))},
		"a, b;\n":                                {plain(comma(a, b))},
		"\"use strict\";\n":                      {plain(text("use strict"))},
		"if (a, b)\n;\n":                         {node(api.NodeIf, comma(a, b), empty())},
		"if (a)\nb;\nelse\n{\n}\n":               {node(api.NodeIf, a, plain(b), block())},
		"if (a)\n;\nelse\nif (b)\n;\n":           {node(api.NodeIf, a, empty(), node(api.NodeIf, b, empty()))},
		"do\n;\nwhile (a, b);\n":                 {node(api.NodeDo, empty(), comma(a, b))},
		"do\ndo\n{\n}\nwhile (a);\nwhile (b);\n": {node(api.NodeDo, node(api.NodeDo, block(), a), b)},
		"while (a in b)\n;\n":                    {node(api.NodeWhile, binary("in", a, b), empty())},
		"for (; ; )\n;\n":                        {loop(empty(), empty(), empty())},
		"for (a; b; c)\n;\n":                     {loop(a, b, c)},
		"for (a, b; b, c; c, a)\n;\n":            {loop(comma(a, b), comma(b, c), comma(c, a))},
		"for (; a in b; b in c)\n;\n":            {loop(empty(), binary("in", a, b), binary("in", b, c))},
		"for (var a, b = c; ; )\n;\n":            {loop(declarators(declarator("a"), declarator("b", c)), empty(), empty())},
		"for ({}; ; )\n;\n":                      {loop(node(api.NodeObject), empty(), empty())},
		"for (a in b)\n;\n":                      {node(api.NodeForIn, a, b, empty())},
		"for (a.b in b, c)\n;\n":                 {node(api.NodeForIn, member(a, "b"), comma(b, c), empty())},
		"for (var a in b in c)\n;\n":             {node(api.NodeForIn, declarators(declarator("a")), binary("in", b, c), empty())},
		"for (var a = b in c)\n;\n":              {node(api.NodeForIn, declarators(declarator("a", b)), c, empty())},
		"for ({} in b)\n;\n":                     {node(api.NodeForIn, node(api.NodeObject), b, empty())},
		"continue;\nbreak;\n":                    {leaf(api.NodeContinue), leaf(api.NodeBreak)},
		"continue a;\nbreak \\u00E9;\n":          {named(api.NodeContinue, "a"), named(api.NodeBreak, "\xE9")},
		"return;\nreturn a, b;\n":                {node(api.NodeReturn), node(api.NodeReturn, comma(a, b))},
		"return {};\n":                           {node(api.NodeReturn, node(api.NodeObject))},
		"throw a, b;\n":                          {node(api.NodeThrow, comma(a, b))},
		"a:\nb:\n;\n":                            {named(api.NodeLabel, "a", named(api.NodeLabel, "b", empty()))},
		"\\u00E9:\na;\n":                         {named(api.NodeLabel, "\xE9", plain(a))},
		"switch (a, b) {\n}\n":                   {node(api.NodeSwitch, comma(a, b))},
		"switch (a) {\ncase b, c:\n;\na;\ndefault:\n;\ncase c:\n}\n": {node(api.NodeSwitch, a, oneCase(comma(b, c), empty(), plain(a)), defaults(empty()), oneCase(c))},
		"try {\n} catch (a) {\n}\n":                                  {node(api.NodeTry, block(), named(api.NodeCatch, "a", block()), empty())},
		"try {\n} finally {\n}\n":                                    {node(api.NodeTry, block(), empty(), block())},
		"try {\na;\n} catch (b) {\nb;\n} finally {\n;\nc;\n}\n":      {node(api.NodeTry, block(plain(a)), named(api.NodeCatch, "b", block(plain(b))), block(empty(), plain(c)))},
		"try {\n} catch (\\u00E9) {\n}\n;\n":                         {node(api.NodeTry, block(), named(api.NodeCatch, "\xE9", block()), empty()), empty()},
		"debugger;\n":                                                {leaf(api.NodeDebugger)},
	} {
		prints(t, program(l...), want)
	}
}

// Without in: in the first part of a head, up to the next parentheses.
func TestAs1PrintWithoutIn(t *testing.T) {
	a, b, c := name("a"), name("b"), name("c")
	in := binary("in", a, b)
	code := node(api.NodeFunction, body(plain(in), node(api.NodeFor, in, empty(), empty(), empty()), plain(in)))
	for want, x := range map[string]api.Node{
		"(a in b)":                         in,
		"(a in b in c)":                    binary("in", in, c),
		"(a in (b in c))":                  binary("in", a, binary("in", b, c)),
		"(a in b) + c":                     binary("+", in, c),
		"(a in b) == c":                    binary("==", in, c),
		"c == (a in b)":                    binary("==", c, in),
		"c && (a in b)":                    logical("&&", c, in),
		"!(a in b)":                        unary("!", in),
		"(a in b), (a in b)":               comma(in, in),
		"a = (a in b)":                     assign("=", a, in),
		"(a in b) ? a in b : (a in b)":     choice(in, in, in),
		"a ? b ? a in b : a in b : c":      choice(a, choice(b, in, in), c),
		"a ? b : b ? a in b : (a in b)":    choice(a, b, choice(b, in, in)),
		"[a in b]":                         node(api.NodeArray, in),
		"{\"a\": a in b}":                  node(api.NodeObject, named(api.NodeProperty, "a", in)),
		"a(a in b)":                        call(a, in),
		"new a(a in b)":                    construct(a, in),
		"a[a in b]":                        index(a, in),
		"(a in b)[b]":                      index(in, b),
		"(a = a in b).c":                   member(assign("=", a, in), "c"),
		"(a in b).c":                       member(in, "c"),
		"a((a, a in b), a in b), (a in b)": comma(call(a, comma(a, in), in), in),
		"{get \"a\"() {\na in b;\n}}":      node(api.NodeObject, named(api.NodeGetter, "a", node(api.NodeFunction, body(plain(in))))),
		"[a ? a in b : a in b], (a in b)":  comma(node(api.NodeArray, choice(a, in, in)), in),
		"a ? [a in b] : (a in b)":          choice(a, node(api.NodeArray, in), in),
		"(a in b) || (a = b ? c : a in b)": logical("||", in, assign("=", a, choice(b, c, in))),
		"function() {\na in b;\nfor ((a in b); ; )\n;\na in b;\n} ? a : (a in b)": choice(code, a, in),
	} {
		prints(t, program(node(api.NodeFor, x, in, in, plain(in))), "for ("+want+"; a in b; a in b)\na in b;\n")
		if x.Kind != api.NodeComma {
			prints(t, program(node(api.NodeFor, declarators(declarator("a", x), declarator("b", x)), in, in, empty())), "for (var a = "+want+", b = "+want+"; a in b; a in b)\n;\n")
			prints(t, program(node(api.NodeForIn, declarators(declarator("a", x)), in, plain(in))), "for (var a = "+want+" in a in b)\na in b;\n")
		}
		if x.Kind <= api.NodeCall {
			prints(t, program(node(api.NodeForIn, x, in, plain(in))), "for ("+want+" in a in b)\na in b;\n")
		}
	}
}

func TestAs1PrintDrawn(t *testing.T) {
	d := drawer{draws()}
	for range 20000 {
		n := d.program(2 + d.draw()%6)
		prints(t, n, statement(n))
	}
}

// A text has at most 2^21 units.
func TestAs1PrintLong(t *testing.T) {
	const most = 1 << 21
	a := name("a")
	fill := func(n int) api.Node { return plain(text(strings.Repeat("a", n-4))) }
	long := map[string]func(n int) api.Node{
		"a string":   func(n int) api.Node { return program(fill(n)) },
		"escapes":    func(n int) api.Node { return program(fill(n-6*1000-4), plain(text(strings.Repeat("\n", 1000)))) },
		"a name":     func(n int) api.Node { return program(plain(name(strings.Repeat("a", n-2)))) },
		"its letter": func(n int) api.Node { return program(plain(name(strings.Repeat("\xE9", 1000))), fill(n-6002)) },
		"a label":    func(n int) api.Node { return program(named(api.NodeLabel, strings.Repeat("a", n-4), empty())) },
		"a member":   func(n int) api.Node { return program(plain(member(a, strings.Repeat("a", n-4)))) },
		"a key": func(n int) api.Node {
			return program(plain(node(api.NodeObject, named(api.NodeProperty, strings.Repeat("a", n-11), a))))
		},
		"statements": func(n int) api.Node {
			l := []api.Node{fill(n - 2*(1<<19))}
			for range 1 << 19 {
				l = append(l, empty())
			}
			return program(l...)
		},
		"an end": func(n int) api.Node { return program(block(block(fill(n - 8)))) },
		"deep": func(n int) api.Node {
			x := a
			for range 60000 {
				x = unary("-", x)
			}
			return program(fill(n-2*60000-2), plain(x))
		},
	}
	for what, f := range long {
		if s, errno := ast.Print(f(most)); ustr.Len(s) != most || errno != api.OK {
			t.Errorf("%s: %d units, %d, not %d", what, ustr.Len(s), errno, most)
		}
		for _, units := range []int{most + 1, most + 10000} {
			if s, errno := ast.Print(f(units)); s != "" || errno != api.ErrLong {
				t.Errorf("%s, of %d units: %d units, %d", what, units, ustr.Len(s), errno)
			}
		}
	}
	// A tree that may not be is refused, however long its text.
	refuses(t, program(fill(most+1), hole()))
}
