package early_test

import (
	"strconv"
	"strings"
	"testing"

	"quill/api"
)

func TestEa1Keys(t *testing.T) {
	wrong(t,
		"({a: 1, ¦a: 2})", "({a: 1, ¦get a() {}})", "({a: 1, ¦set a(b) {}})", "({get a() {}, ¦a: 1})", "({set a(b) {}, ¦a: 1})", "({get a() {}, ¦get a() {}})", "({set a(b) {}, ¦set a(b) {}})",
		"({get a() {}, set a(b) {}, ¦get a() {}})", "({get a() {}, set a(b) {}, ¦set a(b) {}})", "({set a(b) {}, get a() {}, ¦set a(b) {}})", "({get a() {}, set a(b) {}, ¦a: 1})", "({set a(b) {}, get a() {}, ¦a: 1})",
		"({a: 1, b: 2, ¦a: 3})", "({a: 1, b: 2, ¦b: 3, a: 4})", "({a: 1, ¦a: 2, a: 3})", "({get a() {}, b: 1, ¦get a() {}})", "({a: 1, get b() {}, set b(a) {}, ¦get a() {}})",
		"({a: 1, ¦'a': 2})", "({'a': 1, ¦\"a\": 2})", "({1: 1, ¦'1': 2})", "({1: 1, ¦1.0: 2})", "({0x10: 1, ¦16: 2})", "({1e3: 1, ¦get 1000() {}})", `({a: 1, ¦\u0061: 2})`, `({'\x61': 1, ¦a: 2})`, "({if: 1, ¦if: 2})", "({get: 1, ¦get: 2})", "({get get() {}, ¦get get() {}})", "({'': 1, ¦'': 2})", "({__proto__: 1, ¦__proto__: 2})", "({hasOwnProperty: 1, ¦hasOwnProperty: 2})", "({eval: 1, ¦eval: 2})", "({.5: 1, ¦'0.5': 2})",
		"[{a: 1}, {a: 1, ¦a: 1}]", "({a: {a: 1, ¦a: 2}})", "({a: {b: 1}, b: {a: 1}, ¦a: 2})", "({a: {a: {a: 1}}, ¦a: 2})", "({get a() { return {a: 1, ¦a: 2} }})", "f({a: 1, ¦a: 2})", "({a: 1, ¦a: 2}).a", "x = {a: ¦function eval() {}, a: 1}", "x = {get b() {}, set b(a) {}, c: 1, ¦set b(a) {}}",
	)
	fine(t, "({})", "({a: 1})", "({a: 1, b: 2, c: 3})", "({get a() {}, set a(b) {}})", "({set a(b) {}, get a() {}})", "({get a() {}, b: 1, set a(b) {}})", "({a: 1, A: 2, aa: 3, ' a': 4, 'a ': 5})", "({1: 1, '01': 2, '1.0': 3})", "({a: {a: {a: 1}}})", "[{a: 1}, {a: 1}]", "({a: 1}, {a: 1})", "({get a() { return {a: 1} }, set a(b) { x = {a: 1} }})", "({a: 1, 'get a': 2})", "({get get() {}, set get(a) {}, set: 1})", "({'': 1, ' ': 2, '\\0': 3})", "({a: a, b: a})", "({a: 1, b: a.a, c: 'a'})", "x = {a: 1}; x = {a: 2}", "({__proto__: 1, constructor: 2, toString: 3})")
}

// All rows of up to four properties of two keys, by what the language says of each pair
// of them (11.1.5): data and accessors, or two of one kind, may not have one key.
func TestEa1AllRows(t *testing.T) {
	forms := []string{"a: 1", "get a() {}", "set a(c) {}", "b: 1", "get b() {}", "set b(c) {}"}
	met := map[bool]int{}
	for length := 1; length <= 4; length++ {
		for row := range power(6, length) {
			s, found := "", false
			var l []int
			for range length {
				k := row % 6
				row /= 6
				if len(l) > 0 {
					s += ", "
				}
				for _, x := range l {
					if clash := x/3 == k/3 && (x%3 == 0 || k%3 == 0 || x == k); clash && !found {
						s, found = s+"¦", true
					}
				}
				l = append(l, k)
				s += forms[k]
			}
			met[found]++
			if found {
				wrong(t, "({"+s+"})")
			} else {
				fine(t, "({"+s+"})")
			}
		}
	}
	if met[true] < 1000 || met[false] != 88 {
		t.Errorf("met were %v", met)
	}
}

func power(x, n int) int {
	told := 1
	for range n {
		told *= x
	}
	return told
}

// All rows of up to four parameters.
func TestEa1AllParameters(t *testing.T) {
	words := []string{"a", "b", "eval", "arguments", "c"}
	for length := 1; length <= 4; length++ {
		for row := range power(5, length) {
			var l []string
			found := false
			for range length {
				x := words[row%5]
				row /= 5
				if (x == "eval" || x == "arguments" || strings.Contains(" "+strings.Join(l, " ")+" ", " "+x+" ")) && !found {
					x, found = "¦"+x, true
				}
				l = append(l, x)
			}
			s := strings.Join(l, ", ")
			if found {
				wrong(t, "function f("+s+") {}", "(function ("+s+") {})")
			} else {
				fine(t, "function f("+s+") {}", "(function ("+s+") {})")
			}
		}
	}
}

// Keys and parameters may be as many as a tree lets: the last one is seen to be one
// that came ahead.
func TestEa1Many(t *testing.T) {
	const many = 1 << 18
	object, function := node(api.NodeObject), node(api.NodeFunction)
	for i := range many {
		s := "k" + strconv.Itoa(i)
		object.Kids = append(object.Kids, named(api.NodeProperty, s, name("a")))
		function.Kids = append(function.Kids, name(s))
	}
	parameters := function.Kids
	function.Kids = append(parameters, body())
	checked(t, program(plain(object)), 0, api.OK)
	checked(t, program(plain(function)), 0, api.OK)
	again := api.Node{Kind: api.NodeName, Str: parameters[many/2].Str, Pos: 5}
	function.Kids = append(parameters[:many:many], again, body())
	checked(t, program(plain(function)), 5, api.ErrSyntax)
	setter := named(api.NodeSetter, "k1", named(api.NodeFunction, "", name("a"), body()))
	setter.Pos = 8
	object.Kids = append(object.Kids, setter)
	checked(t, program(plain(object)), 8, api.ErrSyntax)
}
