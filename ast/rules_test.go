package ast_test

import (
	"math"
	"slices"
	"strings"
	"sync"
	"testing"

	"quill/api"
	"quill/ast"
)

// heard is what all calls tell of two trees.
type heard struct {
	check, print api.Errno
	text         string
	same         bool
	depth, size  int
}

func calls(a, b api.Node) heard {
	var h heard
	h.check = ast.Check(a)
	h.text, h.print = ast.Print(a)
	h.same = ast.Same(a, b)
	h.depth, h.size = ast.Depth(a), ast.Size(a)
	return h
}

// anyNodes are nodes of all kinds: parts of all kinds, in trees and alone.
func anyNodes() []api.Node {
	var l []api.Node
	for k := -2; k <= 66; k++ {
		for i := range 6 {
			n := api.Node{Kind: k, Pos: math.MinInt + i}
			switch i {
			case 1:
				n.Op, n.Kids = "+", []api.Node{name("a"), name("b")}
			case 2:
				n.Str, n.Kids = "\x00a\xFF", []api.Node{{}}
			case 3:
				n.Num, n.Flag, n.Kids = math.NaN(), true, []api.Node{leaf(k), leaf(k), leaf(k)}
			case 4:
				n.Str, n.Kids = "\x00a", []api.Node{body()}
			case 5:
				n.Kids = []api.Node{empty(), empty(), empty(), empty()}
			}
			l = append(l, n, program(n), program(plain(n)), program(block(n), n), program(plain(unary("++", n))), program(node(api.NodeSwitch, name("a"), n)))
		}
	}
	return append(l, samples()...)
}

func TestR1NoPanic(t *testing.T) {
	l := anyNodes()
	for i, x := range l {
		calls(x, l[i*7919%len(l)])
	}
	d := drawer{draws()}
	for range 20000 {
		n, _ := d.changed(d.program(2 + d.draw()%3))
		for range d.draw() % 4 {
			n, _ = d.changed(n)
		}
		calls(n, n)
	}
}

// chain is a deep tree, grown by a function.
func chain(times int, x api.Node, f func(x api.Node) api.Node) api.Node {
	for range times {
		x = f(x)
	}
	return program(plain(x))
}

// Trees of parts that are alike, as deep as may be: gone down again from each, they
// would take many minutes.
func TestR1Ends(t *testing.T) {
	a, object := name("a"), node(api.NodeObject)
	for i, f := range []func(x api.Node) api.Node{
		func(x api.Node) api.Node { return unary("-", x) },
		func(x api.Node) api.Node { return unary("void", x) },
		func(x api.Node) api.Node { return member(x, "a") },
		func(x api.Node) api.Node { return index(x, a) },
		func(x api.Node) api.Node { return index(a, x) },
		func(x api.Node) api.Node { return call(x) },
		func(x api.Node) api.Node { return construct(x) },
		func(x api.Node) api.Node { return construct(member(x, "a")) },
		func(x api.Node) api.Node { return construct(call(x)) },
		func(x api.Node) api.Node { return binary("in", x, a) },
		func(x api.Node) api.Node { return binary("in", a, x) },
		func(x api.Node) api.Node { return choice(x, a, a) },
		func(x api.Node) api.Node { return choice(a, a, x) },
		func(x api.Node) api.Node { return assign("=", a, x) },
		func(x api.Node) api.Node { return assign("=", member(x, "a"), a) },
		func(x api.Node) api.Node { return comma(x, a) },
		func(x api.Node) api.Node { return node(api.NodeArray, x) },
		func(x api.Node) api.Node { return node(api.NodeObject, named(api.NodeProperty, "", x)) },
		func(x api.Node) api.Node { return node(api.NodeFunction, body(plain(x))) },
		func(x api.Node) api.Node { return call(node(api.NodeFunction, body(plain(x)))) },
		func(x api.Node) api.Node { return node(api.NodeFunction, body(node(api.NodeIf, x, empty(), empty()))) },
	} {
		for _, end := range []api.Node{a, object} {
			n := chain(65000, end, f)
			if i >= 7 {
				n = chain(16000, end, f)
			}
			if h := calls(n, copied(n)); h.check != api.OK || !h.same {
				t.Errorf("%d: %d, %t", i, h.check, h.same)
			}
		}
	}
	for _, f := range []func(x api.Node) api.Node{
		func(x api.Node) api.Node { return node(api.NodeIf, a, x) },
		func(x api.Node) api.Node { return node(api.NodeIf, a, x, empty()) },
		func(x api.Node) api.Node { return node(api.NodeIf, a, empty(), x) },
		func(x api.Node) api.Node { return node(api.NodeIf, a, node(api.NodeWhile, a, x), empty()) },
		func(x api.Node) api.Node { return named(api.NodeLabel, "a", x) },
		func(x api.Node) api.Node { return node(api.NodeDo, x, a) },
		func(x api.Node) api.Node { return node(api.NodeSwitch, a, defaults(x)) },
		func(x api.Node) api.Node { return node(api.NodeTry, block(x), empty(), block()) },
	} {
		n := chain(20000, a, func(x api.Node) api.Node { return x })
		x := block(n.Kids...)
		for range 20000 {
			x = f(x)
		}
		calls(program(x), program(x))
	}
}

// What is beyond any text is not written first.
func TestR1EndsLong(t *testing.T) {
	long := text(strings.Repeat("a", 1<<20))
	var l []api.Node
	for range 1 << 18 {
		l = append(l, plain(long))
	}
	if s, errno := ast.Print(program(l...)); s != "" || errno != api.ErrLong {
		t.Errorf("%d", errno)
	}
}

func TestR2ZeroBesideErrors(t *testing.T) {
	refused := 0
	for _, x := range anyNodes() {
		h := calls(x, x)
		if h.check != h.print || h.check != api.OK && h.check != api.ErrTree {
			t.Errorf("%s: Check tells %d, Print %d", seen(x), h.check, h.print)
		}
		if h.print != api.OK {
			refused++
			if h.text != "" {
				t.Errorf("%s: %q beside error %d", seen(x), h.text, h.print)
			}
		}
	}
	if refused < 1000 {
		t.Errorf("%d refused", refused)
	}
}

// What is handed in is left as it is, and what lies behind a list's end, too.
func TestR3ArgumentsAreLeft(t *testing.T) {
	d := drawer{draws()}
	for range 1000 {
		n := copied(d.program(4)) // its lists have room behind their ends
		each(&n, func(x *api.Node) { x.Kids = append(x.Kids, leaf(77))[:len(x.Kids)] })
		m := copied(n)
		calls(n, m)
		if !alike(n, m) {
			t.Error("a tree was changed")
		}
		each(&n, func(x *api.Node) {
			if behind := x.Kids[:len(x.Kids)+1]; behind[len(x.Kids)].Kind != 77 {
				t.Error("what lies behind a list's end was changed")
			}
		})
	}
}

func TestR4OnlyArguments(t *testing.T) {
	ask := func() []heard {
		d := drawer{draws()}
		var l []heard
		for range 300 {
			n := d.program(5)
			m, _ := d.changed(n)
			l = append(l, calls(n, m), calls(m, n))
		}
		return l
	}
	want := ask()
	n := doubled(10, empty())
	var all [4][]heard
	var group sync.WaitGroup
	for i := range all {
		group.Go(func() {
			all[i] = ask()
			calls(n, n)
		})
	}
	group.Wait()
	for _, l := range all {
		if !slices.Equal(l, want) {
			t.Error("the same calls told something else")
		}
	}
}
