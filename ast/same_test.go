package ast_test

import (
	"math"
	"testing"

	"quill/api"
	"quill/ast"
)

// same holds both ways to tell what is wanted.
func same(t *testing.T, a, b api.Node, want bool) {
	t.Helper()
	if ast.Same(a, b) != want || ast.Same(b, a) != want {
		t.Errorf("Same is not %t of %s and %s", want, seen(a), seen(b))
	}
}

// Of all parts but Pos one alone makes nodes unlike, at the top and below.
func TestAs2SameParts(t *testing.T) {
	nan := math.Float64frombits(0x7FF8 << 48)
	l := []api.Node{
		{}, {Kind: 1}, {Kind: -1}, {Op: "+"}, {Op: "-"}, {Str: "\x00a"}, {Str: "\x00b"}, {Num: 1}, {Num: math.Copysign(0, -1)},
		{Num: math.NaN()}, {Num: nan}, {Num: -nan}, {Num: math.Inf(1)}, {Flag: true}, {Kids: []api.Node{{}}}, {Kids: []api.Node{{}, {}}}, {Kids: []api.Node{{Kids: []api.Node{{}}}}}, {Kids: []api.Node{{}, {Kind: 1}}}, {Kids: []api.Node{{Kind: 1}, {}}},
	}
	for i, x := range l {
		for k, y := range l {
			same(t, x, y, i == k)
			same(t, program(x), program(y), i == k)
			same(t, program(empty(), block(x), empty()), program(empty(), block(y), empty()), i == k)
			moved := copied(y)
			moved.Pos = 7
			same(t, x, moved, i == k)
			same(t, program(x), program(moved), i == k)
		}
	}
	same(t, api.Node{Kids: nil}, api.Node{Kids: []api.Node{}}, true)
}

func TestAs2Drawn(t *testing.T) {
	d := drawer{draws()}
	alikes := 0
	for range 10000 {
		n := d.program(2 + d.draw()%5)
		same(t, n, copied(n), true)
		m, changed := d.changed(n)
		same(t, n, m, !changed)
		if !changed {
			alikes++
		}
		x := d.program(2)
		same(t, n, x, alike(n, x))
		if size, depth := counted(n); ast.Size(n) != size || ast.Depth(n) != depth {
			t.Errorf("Size %d, Depth %d, not %d, %d", ast.Size(n), ast.Depth(n), size, depth)
		}
		if size, depth := counted(m); ast.Size(m) != size || ast.Depth(m) != depth {
			t.Errorf("Size %d, Depth %d, not %d, %d", ast.Size(m), ast.Depth(m), size, depth)
		}
	}
	if alikes < 1000 || alikes > 9000 {
		t.Errorf("%d were alike", alikes)
	}
}

// counted is a tree's Size and Depth, by the words.
func counted(n api.Node) (int, int) {
	size, depth := 1, 0
	for _, x := range n.Kids {
		s, d := counted(x)
		size, depth = size+s, max(depth, d)
	}
	return size, depth + 1
}

func TestAs2Counts(t *testing.T) {
	for _, c := range []struct {
		n           api.Node
		size, depth int
	}{
		{api.Node{}, 1, 1},
		{program(), 1, 1},
		{api.Node{Kids: []api.Node{}}, 1, 1},
		{program(empty(), block(empty()), empty()), 5, 3},
		{deep(2), 2, 2},
		{deep(65536), 65536, 65536},
		{deep(65537), 65537, 65537},
		{deep(1 << 20), 1 << 20, 1 << 20},
		{deep(1<<20 + 1), 0, 0},
		{wide(1 << 20), 1 << 20, 2},
		{wide(1<<20 + 1), 0, 0},
		{doubled(18, empty()), 1 << 19, 20},
		{doubled(19, empty()), 1 << 20, 21},
		{doubled(20, empty()), 0, 0},
		{doubled(100, empty()), 0, 0},
		{endless(1), 0, 0},
		{endless(1000), 0, 0},
		{block(doubled(18, empty()), wide(1<<19)), 0, 0},
		{block(doubled(18, empty()), wide(1<<19-1)), 1 << 20, 21},
		{block(doubled(18, empty()), deep(1<<19-1)), 1 << 20, 1 << 19},
	} {
		if ast.Size(c.n) != c.size || ast.Depth(c.n) != c.depth {
			t.Errorf("Size %d, Depth %d, not %d, %d", ast.Size(c.n), ast.Depth(c.n), c.size, c.depth)
		}
	}
}

// Trees that are greater than may be are the same or not all the same.
func TestAs2SameGreat(t *testing.T) {
	other := func(n api.Node) api.Node { return program(n.Kids[0], leaf(api.NodeDebugger)) }
	for _, f := range []func() api.Node{
		func() api.Node { return deep(1<<20 + 5) },
		func() api.Node { return wide(1<<20 + 5) },
		func() api.Node { return doubled(21, empty()) },
		func() api.Node { return doubled(100, empty()) },
		func() api.Node { return endless(1) },
		func() api.Node { return endless(12) },
	} {
		n := f()
		same(t, n, n, true)
		same(t, n, f(), true)
		same(t, n, program(empty()), false)
		same(t, n, other(n), false)
	}
	same(t, doubled(100, empty()), doubled(100, leaf(api.NodeDebugger)), false)
	same(t, doubled(100, empty()), doubled(101, empty()), false)
	same(t, endless(12), endless(8), true)
	same(t, endless(12), deep(1000), false)
}
