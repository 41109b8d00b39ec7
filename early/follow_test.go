package early_test

import (
	"slices"
	"testing"

	"quill/api"
	"quill/early"
)

// functionsOf are a tree's functions.
func functionsOf(n *api.Node) []*api.Node {
	var l []*api.Node
	each(n, func(x *api.Node) {
		if x.Kind == api.NodeFunction || x.Kind == api.NodeDeclare {
			l = append(l, x)
		}
	})
	return l
}

// asProgram is a function's body as a program; what returns from it is left out.
func asProgram(n *api.Node) api.Node {
	told := program(copied(n.Kids[len(n.Kids)-1]).Kids...)
	var leave func(x *api.Node)
	leave = func(x *api.Node) {
		switch x.Kind {
		case api.NodeFunction, api.NodeDeclare:
			return
		case api.NodeReturn:
			x.Kind = api.NodeEmpty
			if len(x.Kids) > 0 {
				x.Kind = api.NodeExpr
			}
			return
		}
		for i := range x.Kids {
			leave(&x.Kids[i])
		}
	}
	leave(&told)
	return told
}

// What is wrong in a function's body is wrong in the whole; a tree without errors has
// none in its functions' bodies.
func TestEa3Parts(t *testing.T) {
	fines, wrongs := 0, 0
	for i := range 20000 {
		n := tree(t, writer{draws(i), 10 + i%40}.program(1+i%4))
		_, errno := early.Check(n)
		for _, f := range functionsOf(&n) {
			part := asProgram(f)
			place, e := early.Check(part)
			if e == api.ErrTree || e != api.OK && errno == api.OK {
				t.Errorf("%s: error %d at %d in %s, but %d in the whole", seen(part), e, place, seen(n), errno)
			}
			if e == api.OK {
				fines++
			} else {
				wrongs++
			}
		}
	}
	if fines < 3000 || wrongs < 3000 {
		t.Errorf("%d bodies were fine, %d wrong", fines, wrongs)
	}
}

// Whether something is wrong hangs not on places, and they are told as they are.
func TestEa3Places(t *testing.T) {
	for i := range 10000 {
		w := writer{draws(i), 20}
		n := tree(t, w.program(1+i%4))
		m := copied(n)
		numbered(&m)
		number, errno := early.Check(m)
		var wrong api.Node
		each(&n, func(x *api.Node) {
			if number == 0 {
				wrong = *x
			}
			number--
		})
		if errno == api.OK {
			wrong.Pos = 0
		}
		checked(t, n, wrong.Pos, errno)
		each(&n, func(x *api.Node) { x.Pos = 7 })
		checked(t, n, map[api.Errno]int{api.ErrSyntax: 7}[errno], errno)
	}
}

// All that a body declares is among its names, and nothing that a function within
// declares alone; what is wrong changes nothing of that.
func TestEa4(t *testing.T) {
	alone := 0
	for i := range 10000 {
		n := tree(t, writer{draws(i), 20}.program(1+i%4))
		l, errno := early.Names(n)
		if errno != api.OK {
			t.Fatalf("%s: error %d", seen(n), errno)
		}
		for _, p := range paths(&n) {
			if !p.is(api.NodeDeclare, api.NodeDeclarator) {
				continue
			}
			s := p.node().Str
			if !p.inFunction() && !slices.Contains(l, s) {
				t.Errorf("%s: %q, without %q", seen(n), encoded(l), s)
			}
			if p.inFunction() && !slices.Contains(declared(&n), s) {
				alone++
				if slices.Contains(l, s) {
					t.Errorf("%s: %q, with %q", seen(n), encoded(l), s)
				}
			}
		}
	}
	if alone < 1000 {
		t.Errorf("%d names stood in functions alone", alone)
	}
}
