package source_test

import (
	"math"
	"slices"
	"strings"
	"sync"
	"testing"

	"quill/api"
	"quill/source"
	"quill/ustr"
)

func anyDepths() []int {
	return []int{math.MinInt, math.MinInt + 1, -1 << 32, -1, 0, 1, 2, 3, 4, 5, 9, 255, 256, 257, 1 << 32, math.MaxInt - 1, math.MaxInt}
}

// held holds what Read tells to be a tree and no place, or an error without a tree and
// with a place only where it has one.
func held(t *testing.T, b string, depth int) api.Errno {
	t.Helper()
	h := read(b, depth)
	known := slices.Contains([]api.Errno{api.OK, api.ErrArg, api.ErrLong, api.ErrEncoding, api.ErrSyntax, api.ErrDeep}, h.errno)
	placed := h.errno == api.ErrEncoding || h.errno == api.ErrSyntax
	if !known || !placed && h.place != 0 || h.errno != api.OK && !alike(h.n, api.Node{}) || h.errno == api.OK && h.n.Kind != api.NodeProgram {
		t.Errorf("%q under %d: error %d at %d; %s", short(b), depth, h.errno, h.place, seen(h.n))
	}
	return h.errno
}

// No call panics, and beside an error nothing is told but its place.
func TestR1R2AnyBytes(t *testing.T) {
	met := map[api.Errno]int{}
	for i := range 20000 {
		w := writer{draws(i), 30}
		b := w.anyBytes()
		met[held(t, b, anyDepths()[i%len(anyDepths())])]++
		held(t, b, w.draw()%300)
	}
	for x := range 1 << 16 { // each two bytes, within the program's others
		held(t, string([]byte{byte(x >> 8), byte(x)}), 9)
		held(t, string([]byte{'a', byte(x >> 8), byte(x), ')'}), 9)
	}
	for _, errno := range []api.Errno{api.OK, api.ErrArg, api.ErrEncoding, api.ErrSyntax, api.ErrDeep} {
		if met[errno] < 500 {
			t.Errorf("met were %v", met)
		}
	}
}

// The greatest sources, of parts that are alike, are read to their ends.
func TestR1Ends(t *testing.T) {
	for _, part := range []string{"(", ")", "[", "{", "!", "- ", "a=", "a?", "a,", "a.", "a(", "a:", "new ", "function f(){", "({a:", "if(a)", "do ", "'", "\"", "\\", "\\u0061", "/*", "//", "/", "*/", "\n", "a\n", "0", "9", "1 ", "0x", "1e", ".", "é", "😀", "\u2028", "''+", "a++ ", "case ", "\xC3", "\xFF", "\x00"} {
		b := strings.Repeat(part, api.MaxSource/len(part))
		held(t, b, api.MaxDepth)
		held(t, b+" ", api.MaxDepth)
		held(t, b[:len(b)/9], 1)
		held(t, strings.Repeat(part, 65000/len(part)), api.MaxDepth)
	}
}

// changed is a copy of a tree with a change at one node: often one that may be no more.
func changed(draw func() int, n api.Node) api.Node {
	n = copied(n)
	var l []*api.Node
	each(&n, func(x *api.Node) { l = append(l, x) })
	x, y := l[draw()%len(l)], copied(*l[draw()%len(l)])
	switch draw() % 9 {
	case 0:
		x.Kind = draw()%70 - 2
	case 1:
		x.Op = []string{"", "delete", "++", "=", "+", "\x00"}[draw()%6]
	case 2:
		x.Str = []string{"", ustr.Wide("a"), ustr.Wide("eval"), ustr.Wide("if"), "a", "\x00a\x00"}[draw()%6]
	case 3:
		x.Num, x.Flag = math.NaN(), !x.Flag
	case 4:
		x.Kids = x.Kids[:len(x.Kids)-min(1, len(x.Kids))]
	case 5:
		x.Kids = append(x.Kids, y)
	case 6:
		*x = y
	default: // what may be, but is wrong
		switch {
		case x.Kind == api.NodeName || x.Kind == api.NodeDeclarator || x.Kind == api.NodeDeclare:
			x.Str = ustr.Wide("eval")
		case x.Kind == api.NodeExpr || x.Kind == api.NodeBlock:
			*x = deleted()
		case x.Kind == api.NodeEmpty:
			*x = node(api.NodeReturn)
		}
	}
	return n
}

// anyTree is a tree, or nearly one.
func anyTree(row int) api.Node {
	w := writer{draws(row), 50}
	n := read(w.program(1+row%4), api.MaxDepth).n
	if row%2 > 0 {
		n = varied(w.draw, n)
	}
	for range w.draw() % 3 {
		n = changed(w.draw, n)
	}
	return n
}

func TestR1R2AnyTree(t *testing.T) {
	var l []api.Node
	for kind := -2; kind <= 66; kind++ {
		for _, n := range []api.Node{node(kind), operated(kind, "delete", name("a")), named(kind, "eval", name("a"), node(api.NodeBody)), {Kind: kind, Str: "\x00", Num: math.NaN(), Flag: true, Pos: math.MinInt}, node(kind, node(kind), node(kind))} {
			l = append(l, n, program(n), program(plain(n)), node(api.NodeFunction, n))
		}
	}
	for i := range 10000 {
		l = append(l, anyTree(i))
	}
	met := map[api.Errno]int{}
	for _, n := range l {
		b, errno := source.Write(n)
		met[errno]++
		known := slices.Contains([]api.Errno{api.OK, api.ErrTree, api.ErrSyntax, api.ErrLong}, errno)
		if !known || errno != api.OK && b != "" {
			t.Errorf("%s: %q, error %d", seen(n), short(b), errno)
		}
	}
	if met[api.OK] < 1000 || met[api.ErrSyntax] < 100 || met[api.ErrTree] < 1000 {
		t.Errorf("met were %v", met)
	}
}

// A tree that is handed in is left as it is, and what lies behind a list's end, too.
func TestR3ArgumentsAreLeft(t *testing.T) {
	for i := range 2000 {
		n := copied(anyTree(i)) // its lists have room behind their ends
		each(&n, func(x *api.Node) { x.Kids = append(x.Kids, node(77))[:len(x.Kids)] })
		was := copied(n)
		source.Write(n)
		if !alike(n, was) {
			t.Errorf("%s was changed", seen(was))
		}
		each(&n, func(x *api.Node) {
			if x.Kids[:len(x.Kids)+1][len(x.Kids)].Kind != 77 {
				t.Errorf("%s: what lies behind a list's end was changed", seen(n))
			}
		})
	}
}

// overwrite changes all nodes of a tree, and the spare room of its lists.
func overwrite(n *api.Node) {
	for i := range n.Kids {
		overwrite(&n.Kids[i])
	}
	l := n.Kids[:cap(n.Kids)]
	for i := range l {
		l[i] = node(77)
	}
}

// A tree that is told is new each time, its lists' spare room too, and no two of its
// lists share any.
func TestR3AnswersAreNew(t *testing.T) {
	for i := range 2000 {
		b := writer{draws(i), 100}.program(1 + i%5)
		first, second := read(b, api.MaxDepth), read(b, api.MaxDepth)
		want := copied(second.n)
		overwrite(&first.n)
		if !alike(second.n, want) || !alike(read(b, api.MaxDepth).n, want) {
			t.Errorf("%q is read otherwise", short(b))
		}
		count := 0
		each(&second.n, func(x *api.Node) {
			l := x.Kids[:cap(x.Kids)]
			for i := range l[len(x.Kids):] {
				l[len(x.Kids):][i] = node(77)
			}
			count += len(l)
		})
		if !alike(second.n, want) {
			t.Errorf("%q: lists share %d nodes' room", short(b), count)
		}
	}
}

// What is told hangs on arguments alone: asked again, by many at once, and behind other
// calls.
func TestR4OnlyArguments(t *testing.T) {
	type answers struct {
		h     heard
		b     string
		errno api.Errno
	}
	ask := func() []answers {
		var l []answers
		for i := range 1000 {
			w := writer{draws(i), 30}
			var x answers
			x.h = read(w.anyBytes(), 1+w.draw()%40)
			x.b, x.errno = source.Write(anyTree(i))
			l = append(l, x)
		}
		return l
	}
	want := ask()
	var all [4][]answers
	var group sync.WaitGroup
	for i := range all {
		group.Go(func() { all[i] = ask() })
	}
	group.Wait()
	for _, l := range all {
		for i, x := range l {
			if !sameHeard(x.h, want[i].h) || x.b != want[i].b || x.errno != want[i].errno {
				t.Errorf("row %d: told otherwise", i)
			}
		}
	}
}

// Of more than one fault of a kind that is told which comes first.
func TestR5First(t *testing.T) {
	for i := range 20 {
		ahead := strings.Repeat("é;", i)
		refuses(t, ahead+"\xFF\xFE\xFF", 9, 3*i, api.ErrEncoding)
		refuses(t, ahead+"# # #", 9, 2*i, api.ErrSyntax)
		refuses(t, ahead+") ) )", 9, 2*i, api.ErrSyntax)
		refuses(t, ahead+"break; continue; return", 9, 2*i, api.ErrSyntax)
	}
}
