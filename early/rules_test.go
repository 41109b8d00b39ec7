package early_test

import (
	"math"
	"slices"
	"strings"
	"sync"
	"testing"

	"quill/api"
	"quill/early"
	"quill/ustr"
)

// heard is what both calls tell of a tree.
type heard struct {
	place int
	check api.Errno
	l     []string
	names api.Errno
}

func calls(n api.Node) heard {
	var h heard
	h.place, h.check = early.Check(n)
	h.l, h.names = early.Names(n)
	return h
}

func sameHeard(a, b heard) bool {
	return a.place == b.place && a.check == b.check && slices.Equal(a.l, b.l) && a.names == b.names
}

// changed is a copy of a tree with a change at one node: often one that may be no more.
func changed(draw func() int, n api.Node) api.Node {
	n = copied(n)
	var l []*api.Node
	each(&n, func(x *api.Node) { l = append(l, x) })
	x, y := l[draw()%len(l)], copied(*l[draw()%len(l)])
	switch draw() % 7 {
	case 0:
		x.Kind = draw()%70 - 2
	case 1:
		x.Op = []string{"", "delete", "++", "=", "+", "\x00"}[draw()%6]
	case 2:
		x.Str = []string{"", ustr.Wide("a"), ustr.Wide("eval"), ustr.Wide("if"), "a", "\x00e\x00v\x00a\x00l\x00"}[draw()%6]
	case 3:
		x.Num, x.Flag = math.NaN(), !x.Flag
	case 4:
		x.Kids = x.Kids[:len(x.Kids)-min(1, len(x.Kids))]
	case 5:
		x.Kids = append(x.Kids, y)
	case 6:
		*x = y
	}
	return n
}

// anyNodes are nodes of all kinds, in trees and alone.
func anyNodes(t *testing.T) []api.Node {
	var l []api.Node
	for kind := -2; kind <= 66; kind++ {
		for _, n := range []api.Node{
			node(kind), {Kind: kind, Op: "delete", Kids: []api.Node{name("a")}}, {Kind: kind, Op: "++"}, named(kind, "eval", name("a"), name("a"), body()), {Kind: kind, Str: "\x00", Kids: []api.Node{{}}}, node(kind, name("a"), name("b"), empty()), node(kind, node(kind), node(kind)), {Kind: kind, Pos: math.MinInt, Num: math.NaN(), Flag: true}, named(kind, "a", named(kind, "a", node(kind))), node(kind, empty(), name("eval")),
		} {
			l = append(l, n, program(n), program(plain(n)), program(block(n), n), node(api.NodeFunction, body(n)), program(named(api.NodeDeclare, "f", body(n))), program(node(api.NodeWhile, name("a"), n)), program(plain(assign(n, n))), node(api.NodeFunction, n))
		}
	}
	l = append(l, endless(), body(endless()), node(api.NodeFunction, endless()), program(doubled(50, empty())))
	for i := range 20000 {
		draw := draws(i)
		n := tree(t, writer{draw, 20}.program(1+i%3))
		for range draw() % 4 {
			n = changed(draw, n)
		}
		l = append(l, n)
	}
	return l
}

// No call panics, and beside an error nothing is told but a wrong node's place.
func TestR1R2AnyTree(t *testing.T) {
	met := map[api.Errno]int{}
	for _, n := range anyNodes(t) {
		h := calls(n)
		met[h.check]++
		if h.check != api.OK && h.check != api.ErrSyntax && h.check != api.ErrTree || h.check != api.ErrSyntax && h.place != 0 {
			t.Errorf("%s: error %d at %d", seen(n), h.check, h.place)
		}
		if h.names != api.OK && h.names != api.ErrTree || h.names != api.OK && len(h.l) > 0 {
			t.Errorf("%s: names %q, error %d", seen(n), encoded(h.l), h.names)
		}
	}
	if met[api.OK] < 1000 || met[api.ErrSyntax] < 1000 || met[api.ErrTree] < 1000 {
		t.Errorf("met were %v", met)
	}
}

// Trees of parts that are alike, as deep as may be.
func TestR1Ends(t *testing.T) {
	a := name("a")
	for _, f := range []func(x api.Node) api.Node{
		func(x api.Node) api.Node {
			return api.Node{Kind: api.NodeUnary, Op: "delete", Kids: []api.Node{node(api.NodeArray, x)}}
		},
		func(x api.Node) api.Node { return named(api.NodeMember, "a", x) },
		func(x api.Node) api.Node { return node(api.NodeCall, a, x) },
		func(x api.Node) api.Node { return assign(a, x) },
		func(x api.Node) api.Node { return assign(node(api.NodeIndex, x, a), a) },
		func(x api.Node) api.Node { return node(api.NodeObject, named(api.NodeProperty, "a", x)) },
		func(x api.Node) api.Node {
			return named(api.NodeFunction, "a", a, name("b"), body(node(api.NodeReturn, x)))
		},
		func(x api.Node) api.Node {
			return named(api.NodeFunction, "", body(node(api.NodeVar, named(api.NodeDeclarator, "a", x))))
		},
	} {
		x := a
		for range 16000 {
			x = f(x)
		}
		checked(t, program(plain(x)), 0, api.OK)
		names(t, program(plain(x)), "")
		x = program(node(api.NodeVar, named(api.NodeDeclarator, "b", x), named(api.NodeDeclarator, "c")))
		names(t, x, "b c")
	}
	for _, f := range []func(x api.Node) api.Node{
		func(x api.Node) api.Node { return block(x) },
		func(x api.Node) api.Node { return node(api.NodeIf, a, empty(), x) },
		func(x api.Node) api.Node { return node(api.NodeDo, x, a) },
		func(x api.Node) api.Node { return node(api.NodeForIn, a, a, x) },
		func(x api.Node) api.Node { return node(api.NodeSwitch, a, node(api.NodeCase, a, x)) },
		func(x api.Node) api.Node { return node(api.NodeTry, block(x), empty(), block()) },
		func(x api.Node) api.Node {
			return node(api.NodeTry, block(), named(api.NodeCatch, "a", block(x)), block())
		},
	} {
		x := variable("b")
		for range 16000 {
			x = f(x)
		}
		checked(t, program(x), 0, api.OK)
		names(t, program(x), "b")
	}
}

// What is handed in is left as it is, and what lies behind a list's end, too.
func TestR3ArgumentsAreLeft(t *testing.T) {
	for i := range 2000 {
		n := copied(tree(t, writer{draws(i), 20}.program(3))) // its lists have room behind their ends
		each(&n, func(x *api.Node) { x.Kids = append(x.Kids, node(77))[:len(x.Kids)] })
		was := copied(n)
		calls(n)
		if !alike(n, was) {
			t.Errorf("%s was changed", seen(was))
		}
		each(&n, func(x *api.Node) {
			if behind := x.Kids[:len(x.Kids)+1]; behind[len(x.Kids)].Kind != 77 {
				t.Errorf("%s: what lies behind a list's end was changed", seen(n))
			}
		})
	}
}

// Names that are told are new each time, their spare room too, and nothing of them is
// kept.
func TestR3AnswersAreNew(t *testing.T) {
	n := tree(t, "var a, b, c; function d() {} var e")
	ask := func() []string { l, _ := early.Names(n); return l }
	first, second := ask(), ask()
	want := slices.Clone(first)
	for i := range first[:cap(first)] {
		first[:cap(first)][i] = "x"
	}
	if !slices.Equal(second, want) || !slices.Equal(ask(), want) || len(want) != 5 {
		t.Errorf("%q, %q, not %q", encoded(second), encoded(ask()), encoded(want))
	}
}

// What is told hangs on a tree alone: asked again, at once by many, of a copy that lies
// elsewhere, and behind other calls.
func TestR4OnlyArguments(t *testing.T) {
	l := anyNodes(t)[:12000]
	ask := func() []heard {
		var told []heard
		for _, n := range l {
			told = append(told, calls(n))
		}
		return told
	}
	want := ask()
	var all [4][]heard
	var group sync.WaitGroup
	for i := range all {
		group.Go(func() { all[i] = ask() })
	}
	group.Wait()
	for _, told := range all {
		for i, h := range told {
			if !sameHeard(h, want[i]) {
				t.Errorf("%s: told otherwise", seen(l[i]))
			}
		}
	}
	for i := range 2000 {
		n := tree(t, writer{draws(i), 20}.program(3))
		if !sameHeard(calls(n), calls(copied(n))) {
			t.Errorf("%s: told otherwise of a copy", seen(n))
		}
	}
}

// Of all that is wrong the first is told by the order of the tree, not by places; names
// come by the order of the body.
func TestR5First(t *testing.T) {
	var l []api.Node
	for i := range 9 {
		l = append(l, api.Node{Kind: api.NodeBreak, Pos: 9 - i})
	}
	for i := range l {
		checked(t, program(l[i:]...), 9-i, api.ErrSyntax)
	}
	var b strings.Builder
	var want []string
	for i := range 600 {
		s := "v" + string(rune('a'+i*7%26)) + string(rune('A'+i/26))
		b.WriteString("var " + s + ";")
		want = append(want, s)
	}
	names(t, tree(t, b.String()), strings.Join(want, " "))
}
