package parser_test

import (
	"testing"

	"quill/api"
	"quill/parser"
)

// noSides are expressions that are no left sides, and may stand ahead of an operator.
func noSides() []string {
	return []string{
		"(a + b)", "(a, b)", "(a = b)", "(a ? b : c)", "(a || b)", "(a && b)", "(a in b)", "(a++)", "(++a)", "(-a)", "(delete a.b)", "(typeof a)", "((a + b))", "(((-a)))",
	}
}

// sides are left sides.
func sides() []string {
	return []string{
		"a", "(a)", "((a))", "this", "null", "true", "1", "'a'", "[]", "[a + b]", "({})", "({a: b + c})", "(function () {})", "a.b", "a[b]", "(a + b).c", "(a + b)[c]", "(a = b)()", "(-a)(b)", "new a", "new a()", "new (a + b)", "a()", "a().b", "(a.b)", "(a())", "(new a)",
	}
}

func TestPa1LeftSides(t *testing.T) {
	for _, s := range sides() {
		for _, src := range []string{"x, " + s + " = b", "x = " + s + " += b", s + "++", s + "--", "++" + s, "-- " + s, "-++" + s, "for (" + s + " in b);", "a ? b : " + s + " = c", "x, " + s + " >>>= b"} {
			if _, place, errno := parser.Parse(text(t, src), 99); errno != api.OK {
				t.Errorf("%q: error %d at %d", src, errno, place)
			}
		}
	}
}

func TestPa1NoLeftSides(t *testing.T) {
	for _, s := range noSides() {
		refused(t, parser.Parse,
			s+" ¦= b", s+" ¦>>>= b", "x = "+s+" ¦= b", "a ? b : "+s+" ¦= c", "a ? "+s+" ¦= b : c", "["+s+" ¦= b]", s+" ¦= ", s+"\n¦= b",
			s+"¦++", s+" ¦--", "-"+s+" ¦++", s+"¦++ + a", "a + "+s+"¦++", s+"¦++ b",
			"¦++"+s, "¦-- "+s, "¦++\n"+s, "-¦++"+s, "a + ¦++"+s, "++¦++"+s, "¦++"+s+" b", "¦++"+s+")", "¦++"+s+" = a", "¦++"+s+" + a", "¦++"+s+"\n++b",
			"++"+s+"¦++", "for ("+s+" ¦in b);", "for ("+s+" ¦in", "for (a, "+s+" ¦in b);", "for (¦++"+s+";;);", "for ("+s+" ¦= a;;);")
	}
}

// Where the expression is no left side without parentheses, too.
func TestPa1NoLeftSidesBare(t *testing.T) {
	refused(t, parser.Parse,
		"a + b ¦= c", "a * b ¦+= c", "a || b ¦= c", "a && b ¦= c", "a == b ¦= c", "a in b ¦= c", "-a ¦= b", "!a ¦= b", "delete a ¦= b", "typeof a.b ¦= c", "++a ¦= b", "a++ ¦= b", "a + b\n¦= c", "a++\n¦= b", "a = b + c ¦= d", "a + b ¦/= c", "a - b ¦= ", "-a¦=",
		"a++ ¦++", "a++ ¦--", "a++ ¦++ b", "-a++ ¦++", "a-- ¦--;", "a.b++ ¦++", "new a++ ¦++",
		"¦++a++", "¦--a--", "¦++a.b++", "¦++ -a", "¦++ ++a", "++ ¦++ -a", "++ ¦++ ++a", "¦++ !a", "¦-- typeof a", "¦++ delete a.b", "¦++ -a.b", "¦++ -a()", "¦++ -a b", "¦++ -a )", "¦++ -a = b", "¦++a++ b", "¦++a++ ++", "¦++a++.b", "¦++ -a\n++b", "a + ¦++ -b", "a, ¦++b++", "typeof ¦++a++", "{ ¦++ -a", "(¦++ -a", "[¦++a++", "f(¦-- -a",
		"++(a¦", "++(-a¦", "++ -¦", "++ - ¦)", "++ -(a¦", "++ ++¦", "++ ++ ¦)", "++ -a.¦", "++ -a[¦]", "++ -a(¦", "++ -f(a ¦b)", "++(a + ¦)",
		"for (a + b ¦in c);", "for (a, b ¦in c);", "for (a = b ¦in c);", "for (a = b ¦in c;;);", "for (a ? b : c ¦in d);", "for (a ? b : c ¦in d;;);", "for (-a ¦in b);", "for (-a ¦in b;;);", "for (a++ ¦in b);", "for (++a ¦in b);", "for (a || b ¦in c;;);", "for (delete a ¦in b);", "for (a < b ¦in c;;);", "for (a = b, c ¦in d;;);", "for (a = b ? c in d : e ¦in f;;);", "for (a += b ¦in c);", "for (¦++a++ in b);", "for (a, ¦in b);",
	)
}

// The operator of a for-in is met ahead of what comes behind it, and a sign when its
// operand is read: not ahead of what can't stand in that, but of what comes then.
func TestPa1FirstMet(t *testing.T) {
	refused(t, parser.Parse,
		"a + b ¦= )", "for (a + b ¦in );", "(a + b)¦++ )", "¦++(-a) )", "++(- ¦))", "++(-a ¦b)", "++ -(a ¦b)", "¦++ -(a) b", "a ¦b + c = d", "a + b ¦c = d", "¦++a++ = b", "++a ¦b = c",
		"a + (b + c ¦= d) )", "f(a, b + c ¦= d, )", "¦++ -a, b + c = d", "b + c ¦= d, ++ -a",
	)
}
