package ast_test

import (
	"math"
	"testing"

	"quill/api"
	"quill/ast"
	"quill/ustr"
)

// samples are small trees in which each Kind stands.
func samples() []api.Node {
	a, b := name("a"), name("b")
	code := function(api.NodeFunction, "")
	return []api.Node{
		program(),
		program(plain(leaf(api.NodeThis)), plain(a), plain(leaf(api.NodeNull)), plain(truth(true)), plain(truth(false))),
		program(plain(number(0)), plain(number(math.Inf(1))), plain(text("")), plain(text("a\n"))),
		program(plain(node(api.NodeArray)), plain(node(api.NodeArray, hole(), a, hole()))),
		program(plain(node(api.NodeObject)), plain(node(api.NodeObject,
			named(api.NodeProperty, "", a), named(api.NodeGetter, "if", code),
			named(api.NodeSetter, "a b", function(api.NodeFunction, "", "a"))))),
		program(plain(function(api.NodeFunction, "")), plain(function(api.NodeFunction, "f", "a", "b", "a")), function(api.NodeDeclare, "f"), function(api.NodeDeclare, "g", "a")),
		program(plain(node(api.NodeFunction, body(function(api.NodeDeclare, "f"), node(api.NodeReturn))))),
		program(plain(member(a, "b")), plain(member(a, "if")), plain(index(a, b)), plain(construct(a)), plain(construct(a, b, a)), plain(call(a)), plain(call(a, b, a))),
		program(plain(unary("-", a)), plain(unary("++", a)), plain(postfix("--", a)), plain(binary("in", a, b)), plain(logical("||", a, b)), plain(choice(a, b, a)), plain(assign("=", a, b)), plain(comma(a, b))),
		program(block(), block(empty(), block())),
		program(declarators(declarator("a")), declarators(declarator("a", b), declarator("b"))),
		program(empty(), node(api.NodeIf, a, empty()), node(api.NodeIf, a, empty(), block())),
		program(node(api.NodeDo, empty(), a), node(api.NodeWhile, a, empty())),
		program(node(api.NodeFor, empty(), empty(), empty(), empty()), node(api.NodeFor, a, a, a, block()), node(api.NodeFor, declarators(declarator("a"), declarator("b")), empty(), a, block())),
		program(node(api.NodeForIn, a, b, empty()), node(api.NodeForIn, declarators(declarator("a", b)), a, empty())),
		program(leaf(api.NodeContinue), leaf(api.NodeBreak), named(api.NodeContinue, "a"), named(api.NodeBreak, "a")),
		program(node(api.NodeReturn), node(api.NodeReturn, a), named(api.NodeLabel, "a", empty()), node(api.NodeThrow, a), leaf(api.NodeDebugger)),
		program(node(api.NodeSwitch, a), node(api.NodeSwitch, a, oneCase(b), defaults(), oneCase(a, empty(), empty())), node(api.NodeSwitch, a, defaults(empty()))),
		program(node(api.NodeTry, block(), named(api.NodeCatch, "a", block()), empty()), node(api.NodeTry, block(), empty(), block()), node(api.NodeTry, block(), named(api.NodeCatch, "a", block()), block())),
	}
}

func TestAs1Samples(t *testing.T) {
	met := map[int]bool{}
	for _, n := range samples() {
		let(t, n)
		each(&n, func(x *api.Node) { met[x.Kind] = true })
	}
	for k := 1; k <= api.NodeDebugger; k++ {
		if (k <= api.NodeComma || k >= api.NodeProgram) && !met[k] {
			t.Errorf("Kind %d stands in no sample", k)
		}
	}
}

// changes are what is done to a node, part by part; its Kids' numbers, too.
func changes() []func(x *api.Node) {
	var l []func(x *api.Node)
	for k := -1; k <= api.NodeDebugger+2; k++ {
		l = append(l, func(x *api.Node) { x.Kind = k })
	}
	l = append(l, func(x *api.Node) { x.Kind = math.MaxInt }, func(x *api.Node) { x.Kind = math.MinInt })
	for _, s := range []string{"", "delete", "void", "typeof", "++", "--", "+", "-", "~", "!", "*", "/", "%", "<<", ">>", ">>>", "<", ">", "<=", ">=", "instanceof", "in", "==", "!=", "===", "!==", "&", "^", "|", "&&", "||", "=", "*=", "/=", "%=", "+=", "-=", "<<=", ">>=", ">>>=", "&=", "^=", "|=", "**", "=>", ",", "=!", "IN", " +", "+ ", "\x00+", "\x00i\x00n", "?", "new", ".", "??"} {
		l = append(l, func(x *api.Node) { x.Op = s })
	}
	for _, s := range []string{"", "\x00a", "\x00i\x00f", "\x00y\x00i\x00e\x00l\x00d", "\x00g\x00e\x00t", "\x001", "\x00a\x001", "\x00 ", "\x00a\x00 ", "\x00a\x00", "a", "\x00", "\x00\x00", "\x00\\", "\xD8\x00", "\x20\x28", "\x00a\x20\x28", "\x00\xE9", "\x00a\x00i\x00f", "\x00$"} {
		l = append(l, func(x *api.Node) { x.Str = s })
	}
	for _, f := range []float64{0, math.Copysign(0, -1), 1, -1, 5e-324, -5e-324, math.Inf(1), math.Inf(-1), math.NaN(), math.Float64frombits(0xFFF8 << 48), math.Float64frombits(0x7FF0<<48 | 1)} {
		l = append(l, func(x *api.Node) { x.Num = f })
	}
	l = append(l, func(x *api.Node) { x.Flag = !x.Flag }, func(x *api.Node) { x.Pos = math.MinInt }, func(x *api.Node) { x.Kids = nil })
	for k := api.NodeThis; k <= api.NodeDebugger; k++ {
		add := api.Node{Kind: k, Str: ustr.Wide("a")}
		l = append(l, func(x *api.Node) { x.Kids = append(x.Kids, add) }, func(x *api.Node) { x.Kids = append([]api.Node{add}, x.Kids...) })
		for i := range 4 {
			l = append(l, func(x *api.Node) {
				if i < len(x.Kids) {
					x.Kids[i].Kind = k
				}
			})
		}
	}
	for i := range 5 {
		l = append(l, func(x *api.Node) {
			if i < len(x.Kids) {
				x.Kids = append(x.Kids[:i], x.Kids[i+1:]...)
			}
		}, func(x *api.Node) {
			if i < len(x.Kids) {
				x.Kids = append(x.Kids, x.Kids[i])
			}
		})
	}
	return l
}

// Each part of each sample's nodes, made other: what may be is let, what may not is
// refused.
func TestAs1EachPart(t *testing.T) {
	o := newOracle()
	could, could0 := 0, 0
	for _, n := range samples() {
		count := ast.Size(n)
		for i := range count {
			for _, change := range changes() {
				m := copied(n)
				k := 0
				each(&m, func(x *api.Node) {
					if k == i {
						change(x)
					}
					k++
				})
				if o.may(m) {
					could++
					let(t, m)
				} else {
					could0++
					refuses(t, m)
				}
			}
		}
	}
	if could < 1000 || could0 < 10000 {
		t.Errorf("%d were let, %d refused", could, could0)
	}
}

func TestAs1Drawn(t *testing.T) {
	o, d := newOracle(), drawer{draws()}
	was, now := 0, 0
	for range 20000 {
		n := d.program(2 + d.draw()%5)
		let(t, n)
		m, _ := d.changed(n)
		if o.may(m) {
			was++
			let(t, m)
		} else {
			now++
			refuses(t, m)
		}
	}
	if was < 3000 || now < 3000 {
		t.Errorf("%d were let, %d refused", was, now)
	}
}

// What stands where it may not.
func TestAs1Places(t *testing.T) {
	a, code := name("a"), function(api.NodeFunction, "")
	for _, n := range []api.Node{
		{}, leaf(api.NodeProgram + 1), plain(a), a, body(), block(),
		program(program()), program(body()), program(a), program(hole()), program(declarator("a")), program(oneCase(a)), program(named(api.NodeCatch, "a", block())),
		program(block(function(api.NodeDeclare, "f"))),
		program(node(api.NodeIf, a, function(api.NodeDeclare, "f"))),
		program(named(api.NodeLabel, "a", function(api.NodeDeclare, "f"))),
		program(node(api.NodeSwitch, a, defaults(function(api.NodeDeclare, "f")))),
		program(node(api.NodeTry, block(function(api.NodeDeclare, "f")), empty(), block())),
		program(function(api.NodeDeclare, "")),
		program(plain(hole())), program(plain(call(a, hole()))), program(plain(construct(a, hole()))),
		program(plain(node(api.NodeArray, named(api.NodeProperty, "a", a)))),
		program(plain(named(api.NodeProperty, "a", a))),
		program(plain(named(api.NodeGetter, "a", code))),
		program(plain(named(api.NodeSetter, "a", function(api.NodeFunction, "", "x")))),
		program(plain(assign("=", named(api.NodeGetter, "a", code), a))),
		program(plain(node(api.NodeObject, a))),
		program(plain(node(api.NodeObject, named(api.NodeGetter, "a", function(api.NodeFunction, "f"))))),
		program(plain(node(api.NodeObject, named(api.NodeGetter, "a", function(api.NodeFunction, "", "x"))))),
		program(plain(node(api.NodeObject, named(api.NodeGetter, "a", function(api.NodeDeclare, "f"))))),
		program(plain(node(api.NodeObject, named(api.NodeSetter, "a", code)))),
		program(plain(node(api.NodeObject, named(api.NodeSetter, "a", function(api.NodeFunction, "", "x", "y"))))),
		program(plain(node(api.NodeObject, named(api.NodeSetter, "a", function(api.NodeFunction, "f", "x"))))),
		program(plain(node(api.NodeFunction))),
		program(plain(node(api.NodeFunction, a))),
		program(plain(node(api.NodeFunction, body(), a))),
		program(plain(node(api.NodeFunction, body(), body()))),
		program(plain(node(api.NodeFunction, text("a"), body()))),
		program(plain(node(api.NodeFunction, block()))),
		program(plain(call())), program(plain(construct())),
		program(node(api.NodeSwitch, a, defaults(), defaults())),
		program(node(api.NodeSwitch, a, empty())), program(node(api.NodeSwitch)),
		program(node(api.NodeSwitch, a, oneCase())),
		program(node(api.NodeSwitch, a, oneCase(empty()))),
		program(node(api.NodeSwitch, a, defaults(a))),
		program(node(api.NodeTry, block(), empty(), empty())),
		program(node(api.NodeTry, block(), block(), empty())),
		program(node(api.NodeTry, empty(), empty(), block())),
		program(node(api.NodeTry, block(), named(api.NodeCatch, "a", empty()), empty())),
		program(node(api.NodeTry, block(), named(api.NodeCatch, "a", block()))),
		program(declarators()), program(declarators(a)),
		program(declarators(declarator("a", a, a))),
		program(node(api.NodeForIn, declarators(declarator("a"), declarator("b")), a, empty())),
		program(node(api.NodeForIn, empty(), a, empty())),
		program(node(api.NodeForIn, declarators(declarator("a")), empty(), empty())),
		program(node(api.NodeFor, empty(), declarators(declarator("a")), empty(), empty())),
		program(node(api.NodeFor, empty(), empty(), declarators(declarator("a")), empty())),
		program(node(api.NodeFor, plain(a), empty(), empty(), empty())),
		program(node(api.NodeFor, empty(), empty(), empty())),
		program(node(api.NodeThrow)), program(node(api.NodeReturn, a, a)), program(node(api.NodeExpr)),
		program(leaf(api.NodeLabel)), program(named(api.NodeLabel, "if", empty())),
		program(leaf(api.NodeDebugger + 1)), program(leaf(-1)), program(leaf(math.MaxInt)), program(leaf(api.NodeComma + 1)), program(leaf(api.NodeProgram - 1)),
	} {
		refuses(t, n)
	}
}

// Left sides are the expressions up to NodeCall, in an assignment, in a head, and
// where something is counted up or down.
func TestAs1LeftSides(t *testing.T) {
	a, b := name("a"), name("b")
	sides := []api.Node{leaf(api.NodeThis), a, leaf(api.NodeNull), truth(false), number(1), text("a"), node(api.NodeArray), node(api.NodeObject), function(api.NodeFunction, ""), member(binary("+", a, b), "a"), index(a, b), construct(a), call(a)}
	others := []api.Node{unary("-", a), unary("++", a), postfix("++", a), binary("+", a, b), logical("&&", a, b), choice(a, b, a), assign("=", a, b), comma(a, b)}
	uses := func(x api.Node) []api.Node {
		l := []api.Node{node(api.NodeForIn, x, a, empty())}
		for _, op := range []string{"=", "*=", ">>>="} {
			l = append(l, plain(assign(op, x, a)))
		}
		for _, op := range []string{"++", "--"} {
			l = append(l, plain(unary(op, x)), plain(postfix(op, x)))
		}
		return l
	}
	for _, x := range sides {
		for _, n := range uses(x) {
			let(t, program(n))
		}
	}
	for _, x := range others {
		for _, n := range uses(x) {
			refuses(t, program(n))
		}
		for _, op := range []string{"delete", "void", "typeof", "+", "-", "~", "!"} {
			let(t, program(plain(unary(op, x))))
		}
	}
}

// The second of the three Kids of a NodeIf has no open end.
func TestAs1OpenEnds(t *testing.T) {
	a := name("a")
	if2 := node(api.NodeIf, a, empty())
	ends := func(n api.Node) []api.Node {
		return []api.Node{
			n,
			node(api.NodeIf, a, empty(), n),
			node(api.NodeWhile, a, n),
			node(api.NodeFor, empty(), empty(), empty(), n),
			node(api.NodeForIn, a, a, n),
			named(api.NodeLabel, "a", n),
		}
	}
	for _, outer := range ends(if2) {
		refuses(t, program(node(api.NodeIf, a, outer, empty())))
		let(t, program(node(api.NodeIf, a, empty(), outer)))
		let(t, program(node(api.NodeIf, a, outer)))
		let(t, program(node(api.NodeIf, a, block(outer), empty())))
		let(t, program(node(api.NodeIf, a, node(api.NodeDo, outer, a), empty())))
		for _, inner := range ends(outer) {
			refuses(t, program(node(api.NodeIf, a, inner, empty())))
		}
	}
	for _, outer := range ends(empty()) {
		for _, inner := range ends(outer) {
			let(t, program(node(api.NodeIf, a, inner, empty())))
		}
	}
	let(t, program(node(api.NodeIf, a, node(api.NodeTry, block(if2), empty(), block(if2)), empty())))
	let(t, program(node(api.NodeIf, a, node(api.NodeSwitch, a, defaults(if2)), empty())))
}

// A tree has at most 2^20 nodes, and is at most 2^16 deep.
func TestAs1Limits(t *testing.T) {
	let(t, deep(1<<16))
	let(t, wide(1<<20))
	let(t, doubled(19, empty()))
	refuses(t, deep(1<<16+1))
	refuses(t, wide(1<<20+1))
	refuses(t, doubled(20, empty()))
	refuses(t, doubled(70, empty()))
	refuses(t, endless(1))
	refuses(t, endless(3))
}
