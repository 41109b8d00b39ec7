package source_test

import (
	"math"
	"strings"
	"testing"
	"unicode/utf16"

	"quill/api"
	"quill/ast"
	"quill/early"
	"quill/parser"
	"quill/ustr"
)

func TestSo1Examples(t *testing.T) {
	refuses(t, "\xC0", 9, 0, api.ErrEncoding)
	refuses(t, "a b", 9, 2, api.ErrSyntax)
	refuses(t, "delete a", 9, 0, api.ErrSyntax)
	refuses(t, "a=1", 2, 0, api.ErrDeep)
	refuses(t, "a=1", 3, 0, api.ErrDeep)
	if h := read("a=1", 4); h.errno != api.OK || h.place != 0 || ast.Depth(h.n) != 4 {
		t.Errorf("error %d at %d: %s", h.errno, h.place, told(h.n))
	}
}

// A tree is told with all its places, in units of the text.
func TestSo1Trees(t *testing.T) {
	for b, want := range map[string]string{
		"":                            "program@0",
		"\ufeff":                      "program@0",
		"a=1":                         "program@0(expr@0(assign@0:=(name@0:a number@2:1)))",
		"é = 'ü'":                     "program@0(expr@0(assign@0:=(name@0:é string@4:ü)))",
		"'é' + b":                     "program@0(expr@0(binary@0:+(string@0:é name@6:b)))",
		"'😀' + b":                     "program@0(expr@0(binary@0:+(string@0:😀 name@7:b)))",
		"/*€*/ 𝒳.ß(1)":                "program@0(expr@6(call@6(member@6:ß(name@6:𝒳) number@11:1)))",
		"\u2028\u00a0a\u2029b":        "program@0(expr@2(name@2:a) expr@4(name@4:b))",
		`'\ud800\u0041'`:              `program@0(expr@0(string@0:\uD800A))`,
		"var ä = {'ö': b}":            "program@0(var@0(declarator@4:ä(object@8(property@9:ö(name@14:b)))))",
		"function f(é) { return\né }": "program@0(declare@0:f(name@11:é body@14(return@16 expr@23(name@23:é))))",
	} {
		if got := told(tree(t, b)); got != want {
			t.Errorf("%q: %s, not %s", b, got, want)
		}
	}
}

func TestSo1Depths(t *testing.T) {
	for _, depth := range []int{math.MinInt, -1 << 32, -256, -1, 0, 257, 258, 1 << 16, 1 << 32, 1<<32 + 9, math.MaxInt} {
		for _, b := range []string{"", "a", "a b", "delete a", "\xC0", "#", strings.Repeat(";", 70000), strings.Repeat(" ", api.MaxSource), strings.Repeat(" ", api.MaxSource+1), strings.Repeat("\xFF", api.MaxSource+1)} {
			refuses(t, b, depth, 0, api.ErrArg)
		}
	}
	for depth := 1; depth <= api.MaxDepth; depth++ {
		if h := read("", depth); h.errno != api.OK || h.place != 0 || h.n.Kind != api.NodeProgram {
			t.Errorf("under %d: error %d at %d", depth, h.errno, h.place)
		}
	}
}

// There may be 2^20 bytes, whatever units they are; more are told ahead of all else
// that is wrong with them.
func TestSo1Long(t *testing.T) {
	for _, part := range []string{" ", "\n", "é", "\u2028", "😀"} {
		fill := func(bytes int) string {
			b := strings.Repeat(part, bytes/len(part))
			return b + strings.Repeat(" ", bytes-len(b))
		}
		if part == "é" || part == "😀" {
			fine(t, "'"+fill(api.MaxSource-2)+"'")
			refuses(t, "'"+fill(api.MaxSource-1)+"'", 9, 0, api.ErrLong)
			refuses(t, "'"+fill(api.MaxSource)+"'", 9, 0, api.ErrLong)
			fine(t, fill(api.MaxSource)) // a name of many units, and no blank
			refuses(t, fill(api.MaxSource)+" ", 9, 0, api.ErrLong)
			continue
		}
		fine(t, fill(api.MaxSource), fill(api.MaxSource-1), fill(api.MaxSource-1)+"a")
		refuses(t, fill(api.MaxSource+1), 9, 0, api.ErrLong)
		refuses(t, fill(api.MaxSource)+"a", 1, 0, api.ErrLong)
		refuses(t, fill(2*api.MaxSource), 9, 0, api.ErrLong)
	}
	for _, b := range []string{"\xC0", "a b", "#", "delete a", "a = b = c", strings.Repeat(";", 70000)} {
		more := strings.Repeat(" ", api.MaxSource+1-len(b))
		refuses(t, b+more, 2, 0, api.ErrLong)
		refuses(t, more+b, 2, 0, api.ErrLong)
	}
	refuses(t, strings.Repeat(" ", api.MaxSource-1)+")", 9, api.MaxSource-1, api.ErrSyntax)
	refuses(t, strings.Repeat(" ", api.MaxSource-1)+"\xFF", 9, api.MaxSource-1, api.ErrEncoding)
}

// Where bytes are no UTF-8, the place is a byte's; and that is told ahead of what is
// wrong with the text, wherever it stands.
func TestSo1Encoding(t *testing.T) {
	bad := []string{"\x80", "\xBF", "\xC0", "\xC0\x80", "\xC1\xBF", "\xC3", "\xE0\x80\x80", "\xE2\x82", "\xED\xA0\x80", "\xED\xBF\xBF", "\xF0\x80\x80\x80", "\xF0\x9F\x98", "\xF4\x90\x80\x80", "\xF5\x80\x80\x80", "\xFE", "\xFF"}
	ahead := []string{"", "a", "a b", "#", "delete a; ", "é", "'€' ", "/*😀*/", "var 𝒳 = 'ü", "a = b = c = ", strings.Repeat("é", 1000), strings.Repeat(";", 70000)}
	for _, x := range bad {
		for _, s := range ahead {
			for _, behind := range []string{"", " a", "é", ")", "\x80", "\xFF"} {
				if strings.HasPrefix(behind, "\x80") && (x == "\xE2\x82" || x == "\xF0\x9F\x98" || x == "\xC3") {
					continue // with it these are code points
				}
				refuses(t, s+x+behind, 2, len(s), api.ErrEncoding)
			}
		}
	}
	refuses(t, "\xE2\x82\x80\x80", 9, 3, api.ErrEncoding)
	refuses(t, "é\xC3\x80\x80", 9, 4, api.ErrEncoding)
}

// What can't be read, and what can't stand, is told with its place in units.
func TestSo1Syntax(t *testing.T) {
	wrong(t, "¦#", "a ¦#", "¦'", "a = ¦'é", "¦/*", "é ¦/* é", "a ¦\\", "'é'; ¦01", "a = ¦/b/", "¦\x00", "a¦\x00")
	wrong(t, "a ¦b", "'é' ¦b", "'€' ¦b", "'😀' ¦b", "/*é€😀*/ ¦)", "é ¦é", "𝒳 ¦𝒳", "\ufeffa ¦b", "\u2028¦)", "if (é¦", "function f(é, ¦1) {}", "(é¦", "é = ¦", "¦}", "{ 'ü' ¦", "throw\n¦é", "é =¦> é", "if¦", "¦let = 1", "¦with (a) b", "var ¦class", "a.é ¦b")
}

// There may be 65536 tokens, the end counted; what can't be read is told ahead of that
// there are more.
func TestSo1Tokens(t *testing.T) {
	if n := tree(t, strings.Repeat(";", api.MaxTokens-1)); len(n.Kids) != api.MaxTokens-1 {
		t.Errorf("%d statements", len(n.Kids))
	}
	for _, b := range []string{strings.Repeat(";", api.MaxTokens), strings.Repeat("a ", api.MaxTokens), strings.Repeat("delete a;", api.MaxTokens/2), strings.Repeat(")", api.MaxSource), strings.Repeat("é ", api.MaxTokens)} {
		refuses(t, b, 1, 0, api.ErrLong)
	}
	refuses(t, strings.Repeat(";", api.MaxTokens)+"é#", 9, api.MaxTokens+1, api.ErrSyntax)
}

// A tree of more levels is told ahead of what is wrong in it, and behind what can't
// stand.
func TestSo1Deep(t *testing.T) {
	for b, want := range map[string]int{"": 1, ";": 2, "a": 3, "a=1": 4, "é + é + é": 5, "{{{}}}": 4, "function f() { return 1 }": 5, "'😀'.a.b": 5} {
		for depth := 1; depth < want; depth++ {
			refuses(t, b, depth, 0, api.ErrDeep)
		}
		if h := read(b, want); h.errno != api.OK || h.place != 0 || ast.Depth(h.n) != want {
			t.Errorf("%q under %d: error %d at %d", b, want, h.errno, h.place)
		}
	}
	refuses(t, "; delete a", 3, 0, api.ErrDeep)
	refuses(t, "; delete a", 4, 2, api.ErrSyntax)
	refuses(t, "; - a b", 1, 6, api.ErrSyntax)
	fine(t, strings.Repeat("{", 255)+strings.Repeat("}", 255), strings.Repeat("!", 253)+"a", strings.Repeat("(", 30000)+"a"+strings.Repeat(")", 30000))
	refuses(t, strings.Repeat("{", 256)+strings.Repeat("}", 256), api.MaxDepth, 0, api.ErrDeep)
	refuses(t, strings.Repeat("!", 254)+"a", api.MaxDepth, 0, api.ErrDeep)
	refuses(t, strings.Repeat("!", 65000)+"a", api.MaxDepth, 0, api.ErrDeep)
}

// What is wrong ahead of all running is told with its place in units.
func TestSo1Early(t *testing.T) {
	wrong(t, "¦delete a", "; ¦delete é", "'é'; ¦delete a", "'😀'; ¦delete a", "/*€*/ ¦eval = 1", "é = ¦arguments = 2", "¦1 = é", "++¦this", "(é, eval)¦++", "é, (¦eval)++", "for (¦eval in é);", "'ü'; ¦function eval() {}", "function f(é, ¦é) {}", "(function (𝒳, b, ¦𝒳) {})", "var é, ¦arguments", "'€'; try {} ¦catch (eval) {}",
		"({é: 1, ¦é: 2})", "({é: 1, ¦get é() {}})", `({'é': 1, ¦\u00e9: 2})`, "({set 'é'(é) {}, ¦set é(é) {}})", "é: { ¦é: ; }", "'😀'; ¦break", "é: while (1) { ¦break ü }", "é: { while (1) { ¦continue é } }", "{ 'é'; ¦continue }", "𝒳; ¦return", "¦return 1", "while (1) (function () { 'é'; ¦break })")
	fine(t, "delete a.b", "delete (1, a)", "f() = 1", "for (a.b in c);", "function f(é, e) {}", "({get é() {}, set é(é) {}})", "é: while (1) { break é; continue é }", "(function () { return 'é' })", "try {} catch (é) {}", "var eval1", "switch (é) { case 1: break }", "a: ; a: ;")
	wrong(t, "¦delete a; eval = 1", "¦delete a; return", "eval; ¦eval = 1; delete a")
}

// withUnits is a text read by the library.
func withUnits(b string) string { return ustr.Make(utf16.Encode([]rune(b))) }

// Of drawn programs that is told which the layers below tell, one behind the other.
func TestSo1Drawn(t *testing.T) {
	met := map[api.Errno]int{}
	for i := range 20000 {
		w := writer{draws(i), 5 + i%60}
		b, depth := w.program(1+i%5), 1+w.draw()%12
		if i%3 > 0 {
			depth = 200
		}
		n, place, errno := parser.Parse(withUnits(b), depth)
		if errno == api.OK {
			if place, errno = early.Check(n); errno != api.OK {
				n = api.Node{}
			}
		}
		met[errno]++
		if h := read(b, depth); !sameHeard(h, heard{n, place, errno}) {
			t.Errorf("%q under %d: error %d at %d, not %d at %d", short(b), depth, h.errno, h.place, errno, place)
		}
	}
	if met[api.OK] < 1000 || met[api.ErrSyntax] < 1000 || met[api.ErrDeep] < 1000 {
		t.Errorf("met were %v", met)
	}
}
