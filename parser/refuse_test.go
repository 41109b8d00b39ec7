package parser_test

import (
	"strings"
	"testing"

	"quill/api"
	"quill/parser"
	"quill/ustr"
)

// refused holds texts not to be read: what can't stand comes behind the sign ¦, which
// is taken out.
func refused(t *testing.T, f call, l ...string) {
	t.Helper()
	for _, s := range l {
		ahead, behind, ok := strings.Cut(s, "¦")
		if !ok || strings.Contains(behind, "¦") {
			t.Fatalf("%q marks no one place", s)
		}
		refuses(t, f, text(t, ahead+behind), 99, ustr.Len(text(t, ahead)), api.ErrSyntax)
	}
}

func TestPa1RefusedOperands(t *testing.T) {
	refused(t, parser.Parse,
		"¦)", "¦]", "¦}", "¦.", "¦,", "¦:", "¦?", "¦=", "¦*", "¦/a/", "a = ¦/b/", "¦/=a/", "¦&&a", "¦in a", "¦instanceof a",
		"(¦", "(a¦", "(a¦]", "(¦)", "(a,¦)", "(a¦;)", "(a ¦b)", "(a\n¦b)", "(a\n¦++)", "(a\n¦++b)", "((a)¦", "(a\n¦", "(a ¦",
		"[¦", "[a¦", "[a ¦b]", "[a¦;]", "[a,¦", "[,¦", "[¦)", "[a¦:b]", "[a\n¦b]", "[a¦)", "[a¦}",
		"a.¦", "a¦.1", "a¦.5", "a.¦'b'", "a.¦(b)", "a.¦[b]", "a.¦.b", "a.\n¦", "a[¦]", "a[b¦", "a[b,¦]", "a[¦;]", "a[b¦)", "a[b\n¦c]",
		"f(¦", "f(a¦", "f(a,¦)", "f(¦,)", "f(a ¦b)", "f(a¦;", "f(¦;", "f(a,¦,b)", "f(a¦]", "f(a\n¦b)", "f(a,¦", "f(¦]",
		"new¦", "new ¦-a", "new ¦++a", "new ¦delete a", "new ¦.a", "new (¦", "new a(¦", "new (a¦", "new new¦", "new ¦;", "new ¦)", "new a(b¦", "new\n¦", "new\n¦;",
		"a ¦b", "a ¦1", "a ¦'b'", "1 ¦a", "a ¦{}", "a ¦function(){}", "a ¦this", "a ¦!b", "a ¦~b", "a ¦new b", "a ¦typeof b", "a ¦var b", "a ¦if", "a ¦debugger", "a ¦null",
		"a +¦", "a + ¦)", "a + ¦* b", "a && ¦&& b", "a in¦", "a in ¦;", "a + b ¦c", "a <¦", "a\n+\n¦",
		"a ?¦", "a ? ¦: b", "a ? b¦", "a ? b¦;", "a ? b : ¦;", "a ? b¦, c : d", "a ? b¦)", "a ? b :¦", "a ? ¦? b : c : d", "a ? b : c ¦: d", "a\n? b\n¦c",
		"a,¦", "a,¦,b", "a, ¦;", "a =¦", "a = ¦;", "a = ¦= b", "a += ¦+= b", "a = ¦}", "{ a = ¦}", "{ a + ¦}", "{ a, ¦}", "{ a ? b : ¦}",
		"-¦", "-¦;", "!¦)", "typeof ¦;", "delete ¦,", "void¦", "++¦", "++¦;", "a\n++¦", "a\n++\n¦;", "a++ ¦b", "a++¦(b)", "a++¦.b", "a++¦[b]", "a++ ¦1", "a++ ¦c++",
	)
}

// spelt is a word with its first letter as an escape.
func spelt(s string) string {
	const digits = "0123456789abcdef"
	return `\u00` + digits[s[0]>>4:][:1] + digits[s[0]&15:][:1] + s[1:]
}

// Words that begin nothing stand nowhere in the grammar; no reserved word is a name; an
// escaped one is a key alone, or stands behind a point.
func TestPa1RefusedWords(t *testing.T) {
	for _, s := range strings.Fields("case catch class const default else enum export extends finally implements import in instanceof interface let package private protected public static super with yield") {
		refused(t, parser.Parse, "¦"+s, "¦"+s+" a", "¦"+s+" (a) b", "¦"+s+": a", "a = ¦"+s, "(¦"+s+")", "{¦"+s+"}", "if (a) ¦"+s, "a(¦"+s+")", "-¦"+s, "a: ¦"+s)
	}
	for _, s := range strings.Fields("break case catch class const continue debugger default delete do else enum export extends false finally for function if implements import in instanceof interface let new null package private protected public return static super switch this throw true try typeof var void while with yield") {
		refused(t, parser.Parse,
			"var ¦"+s, "var a, ¦"+s, "for (var ¦"+s+";;);", "for (var ¦"+s+" in a);", "function ¦"+s+"() {}", "function f(¦"+s+") {}", "function f(a, ¦"+s+") {}",
			"(function ¦"+s+"() {})", "(function (¦"+s+") {})", "try {} catch (¦"+s+") {}", "({set a(¦"+s+") {}})", "break ¦"+s, "continue ¦"+s)
		x := spelt(s)
		refused(t, parser.Parse,
			"¦"+x, "a = ¦"+x, "¦"+x+": a", "¦"+x+" a", "¦"+x+" (a) {}", "a ¦"+x+" b", "a\n¦"+x+" b", "var ¦"+x, "if (a) b; ¦"+x+" c",
			"do a\n¦"+x+" (b)", "try {} ¦"+x+" {}", "switch (a) {¦"+x+": }", "for (¦"+x+" a in b);", "for (a ¦"+x+" b);", "(¦"+x+" () {})", "break ¦"+x, "function ¦"+x+"() {}")
		for _, key := range []string{s, x} {
			src := "a." + key + ";({" + key + ":1,get " + key + "(){},set " + key + "(a){}})"
			prints(t, src, "a."+s+";\n({\""+s+"\": 1, get \""+s+"\"() {\n}, set \""+s+"\"(a) {\n}});\n")
		}
	}
}

func TestPa1RefusedObjects(t *testing.T) {
	refused(t, parser.Parse,
		"({¦", "({a¦", "({a:¦", "({a:1¦", "({a:1,¦", "({¦,", "({¦:", "({a:1,¦,", "({a:¦}", "({a¦}", "({a¦,b:1})", "({a¦=1})", "({a¦()", "({a ¦b:1})", "({¦(", "({¦[a]:1})", "({¦-1:1})",
		"({a:1 ¦b:2})", "({a:1\n¦b:2})", "({a:1¦;b:2})", "({a:1¦]", "({'a' ¦'b'", "({if¦}", "({1¦}", "({a:1,¦;", "({a:b ¦c", "({a:b¦:",
		"({get¦", "({get¦}", "({get¦,", "({get¦()", "({set¦(a)", "({get¦=", "({get ¦-1", "({get a¦:1})", "({get a¦,", "({get a¦}", "({get a(¦b)", "({get a(¦,", "({get a()¦}", "({get a()¦;", "({get a(){¦", "({get a(){}¦;", "({get a(){} ¦b:1",
		"({set a¦{", "({set a(¦)", "({set a(b¦,c)", "({set a(b¦=", "({set a(b)¦:", "({set a(¦1", "({set a(b¦", "({get get¦:1",
		"({get get ¦a(", "({'get' ¦a(", `({\u0067et ¦a(){}})`, `({s\u0065t ¦a(b){}})`, "({geta ¦b(", "({a ¦get b(", "({Get ¦a(", "({if ¦a(", "({1 ¦a(",
		"{a: 1, b¦: 2}", "{a:1,\nb\n¦:2}", "{'a'¦:1}", "{1¦:1}", "{a:1,¦}", "{get ¦a(){}}", "{if¦:1}",
	)
}

func TestPa1RefusedFunctions(t *testing.T) {
	refused(t, parser.Parse,
		"function¦", "function ¦(", "function ¦() {}", "function ¦1", "function f¦", "function f¦;", "function f ¦g", "function f(¦", "function f(a¦", "function f(a,¦)", "function f(¦,", "function f(a ¦b", "function f(a¦=1", "function f(¦1",
		"function f(¦'a'", "function f(¦(", "function f(a¦;", "function f()¦", "function f()¦;", "function f() ¦a", "function f()\n¦a", "function f(){¦", "function f(){a¦", "function f(){a ¦b", "function f(){¦)", "function f(){}¦)", "function f(){}(¦)", "function f(){} ¦.a", "function f(){} ¦* a",
		"(function¦)", "(function¦{", "(function f¦)", "(function f¦{", "(function()¦)", "(function(){¦)", "(function(){}¦", "(function(){} ¦a", "(function(a,¦){})", "(function(a¦;", "(function(¦1", "(function ¦'a'", "a = function¦", "a = function f¦;", "a = function(){} ¦b", "(function(){function ¦(){}})",
		"if (a) ¦function f() {}", "if (a) b; else ¦function f() {}", "{ ¦function f() {} }", "a: ¦function f() {}", "while (a) ¦function f() {}", "do ¦function f() {} while (a)", "for (;;) ¦function f() {}", "for (a in b) ¦function f() {}",
		"switch (a) { case b: ¦function f() {} }", "switch (a) { default: ¦function f() {} }", "try { ¦function f() {} }", "try {} catch (a) { ¦function f() {} }", "try {} finally { ¦function f() {} }", "(function () { { ¦function f() {} } })", "function f() { if (a) ¦function g() {} }", "{ ¦function () {} }",
	)
}

func TestPa1RefusedStatements(t *testing.T) {
	refused(t, parser.Parse,
		"{¦", "{a¦", "{{}¦", "{¦)", "{a;¦]", "{}¦}", "a;¦}", "a¦}", "a\n¦}", "{1 ¦2}", "{1 ¦2} 3",
		"var¦", "var ¦;", "var ¦1", "var ¦=", "var ¦,", "var a ¦b", "var a,¦", "var a,¦;", "var a,¦,", "var a =¦", "var a = ¦;", "var a = ¦,", "var a¦.b", "var a¦++", "var a¦(", "var a ¦in b", "var a¦:", "var a ¦+= 1", "var a = b ¦c", "var ¦(a)", "var ¦'a'", "var a\n¦)", "var a,\n¦}",
		"if¦", "if ¦a", "if (¦", "if (¦)", "if (a¦", "if (a¦;", "if (a)¦", "if (a) ¦else b", "if (a)\n¦else b", "if (a) ¦}", "if (a) b ¦else c", "if (a) b; else¦", "if (a) b; else ¦}", "if (a) b; else ¦else", "if (a) b; else c; ¦else d", "if (a) b;; ¦else c", "if (a,¦)", "if ¦{}", "if (a) ¦)",
		"do¦", "do ¦}", "do a¦", "do a ¦while (b)", "do a;¦", "do a; ¦b", "do a; while¦", "do a; while ¦b", "do a; while (¦)", "do a; while (b¦", "do a; while (b) ¦c", "do {} while (b) ¦c", "do;while(0) ¦a", "do while (a)¦", "do {} ¦b; while (c)", "do a; while (b) ¦{}", "do a; while (b) ¦(c)", "do\nwhile (a)¦", "do {}\n¦a",
		"while¦", "while ¦a", "while (¦", "while (¦)", "while (a¦", "while (a)¦", "while (a)\n¦", "while (a) ¦}", "{ while (a) ¦}", "while (a¦;", "while (a)\n¦)",
		"continue ¦1", "continue a ¦b", "continue a¦,", "continue¦:", "continue ¦(a)", "break ¦1", "break a ¦b", "break a¦.b", "break ¦'a'", "break ¦-a", "break a¦:", "break ¦{}", "continue ¦{}", "break ¦++",
		"return ¦)", "return ¦:", "return a ¦b", "return a,¦", "return a,¦;", "return ¦if", "return ¦=", "return\n¦)", "return ¦var a",
		"throw¦", "throw ¦;", "throw ¦}", "throw\n¦a", "throw\n¦;", "throw\n¦", "throw/*\n*/¦a", "throw a ¦b", "throw ¦)", "{ throw ¦}", "throw // b\n¦a", "throw a,¦;", "throw\n¦(a)",
		"a:¦", "a: ¦}", "{a: ¦}", "a: ¦)", "a:¦:", "(a)¦: b", "a.b¦: c", "1¦: a", "'a'¦: b", "this¦: a", "a, b¦: c", "a: b: c ¦d",
		"debugger ¦a", "debugger¦(", "debugger¦.a", "debugger ¦1",
	)
}

func TestPa1RefusedSwitchAndTry(t *testing.T) {
	refused(t, parser.Parse,
		"switch¦", "switch ¦a", "switch (¦", "switch (¦)", "switch (a¦", "switch (a)¦", "switch (a) ¦;", "switch (a) ¦b", "switch (a) {¦", "switch (a) {¦b}", "switch (a) {¦;}", "switch (a) {¦)", "switch (a) {¦{}", "switch (a) {¦a: b}",
		"switch (a) {case¦", "switch (a) {case ¦:", "switch (a) {case b¦", "switch (a) {case b¦;", "switch (a) {case b ¦c", "switch (a) {case b¦}", "switch (a) {case b:¦", "switch (a) {case b:c ¦case d:}", "switch (a) {case b: ¦)", "switch (a) {case b,¦:", "switch (a) {case b: c;¦", "switch (a) {case b ? c¦}", "switch (a) {case ¦default:",
		"switch (a) {default¦", "switch (a) {default ¦b", "switch (a) {default¦;", "switch (a) {default¦}", "switch (a) {default:¦", "switch (a) {default: ¦default: }", "switch (a) {default: b; case c: d; ¦default: )", "switch (a) {default:b ¦default:", "switch (a) {case b: default: ¦default",
		"switch (a) {case b: if (c) ¦case d:}", "switch (a) {case b: do ¦default:", "switch (a) {} ¦)", "switch (a) {}¦}", "switch (a,¦)",
		"try¦", "try ¦;", "try ¦a", "try ¦(a)", "try {¦", "try {¦)", "try {a ¦b}", "try {}¦", "try {} ¦a", "try {}\n¦a", "try {} ¦;", "try {}¦}", "try {} ¦else",
		"try {} catch¦", "try {} catch ¦{}", "try {} catch (¦", "try {} catch (¦)", "try {} catch (¦1)", "try {} catch (a¦", "try {} catch (a¦,", "try {} catch (a ¦b)", "try {} catch (a¦.b)", "try {} catch (a¦=1)", "try {} catch (a)¦", "try {} catch (a) ¦b", "try {} catch (a) ¦;", "try {} catch (a) {¦", "try {} catch (a) {} ¦catch (b) {}", "try {} catch (¦{a}) {}", "try {} catch (¦'a') {}",
		"try {} finally¦", "try {} finally ¦(a)", "try {} finally ¦;", "try {} finally {¦", "try {} finally {} ¦finally {}", "try {} finally {} ¦catch (a) {}", "try {} catch (a) {} finally¦", "try {} catch (a) {} finally {} ¦finally {}", "try {} catch (a) {}¦}", "try {} catch (a) {} ¦)",
	)
}

func TestPa1RefusedLoops(t *testing.T) {
	refused(t, parser.Parse,
		"for¦", "for ¦a", "for ¦;", "for (¦", "for (¦)", "for (a¦", "for (a¦)", "for (a;¦", "for (a;¦)", "for (a; b¦)", "for (a; b\n¦)", "for (a\n¦b; c)", "for (a; b; c¦;)", "for (;¦)", "for (;;¦", "for (;;¦;)", "for (;;)¦", "for (;;) ¦}", "for (;;)\n¦", "for (; b\n¦c;)", "for (;; a ¦b)", "for (;; a\n¦b)", "for (a\n¦)", "for (;;a,¦)", "for (;;¦}",
		"for (a ¦b;;);", "for (a = ¦;;);", "for (a,¦;;);", "for (¦if;;);", "for (¦in a);", "for (;¦in a);", "for (a\n¦++;;);", "for (a; b\n¦++;);", "for (;;a\n¦++);", "for (function¦;;);", "for (a¦:;;);",
		"for (var¦", "for (var ¦;;);", "for (var ¦in a);", "for (var a¦", "for (var a¦);", "for (var a\n¦);", "for (var a;¦);", "for (var a,¦;;);", "for (var a = ¦;;);", "for (var a ¦b;;);", "for (var a\n¦b;;);", "for (var a¦.b in c);", "for (var ¦(a) in b);", "for (¦let a;;);", "for (¦const a in b);", "for (var a, ¦in b);",
		"for (var i, j ¦in o);", "for (var i = 1, j ¦in o);", "for (var i = 1, j = 2 ¦in o);", "for (var i = a in b ¦; c; d);", "for (var i = (a in b), c = d ¦in e;;);", "for (var a, b = c ¦in d;;);",
		"for (a in¦", "for (a in ¦)", "for (a in ¦;", "for (a in b¦", "for (a in b¦;;);", "for (a in b ¦c);", "for (a in b\n¦c);", "for (a in b)¦", "for (a in b) ¦}", "for (a in b,¦);", "for (var a in¦", "for (var a in ¦)", "for (var a in b¦;", "for (var a in b)¦", "for (var a in b in¦);", "for (var a in b¦; c; d);", "for (a in b in¦);",
	)
}
