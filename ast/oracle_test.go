package ast_test

import (
	"fmt"
	"math"
	"regexp"
	"slices"
	"strconv"
	"strings"

	"quill/api"
	"quill/ast"
	"quill/lexer"
	"quill/numtext"
	"quill/ustr"
)

// The chapter's words a second time: texts are made of whole texts, and what stands
// in what is told by regular expressions, a sign for each of the Kids.

// opLevels is the level of each operator of two.
func opLevels() map[string]int {
	levels := map[string]int{}
	for i, ops := range []string{"||", "&&", "|", "^", "&", "== != === !==", "< > <= >= instanceof in", "<< >> >>>", "+ -", "* / %"} {
		for _, op := range strings.Fields(ops) {
			levels[op] = i + 3
		}
	}
	return levels
}

// levelOf is an expression's level.
func levelOf(n api.Node) int {
	switch n.Kind {
	case api.NodeComma:
		return 0
	case api.NodeAssign:
		return 1
	case api.NodeConditional:
		return 2
	case api.NodeBinary, api.NodeLogical:
		return opLevels()[n.Op]
	case api.NodeUnary:
		return 13
	case api.NodePostfix:
		return 14
	case api.NodeCall:
		return 15
	case api.NodeMember, api.NodeIndex:
		if levelOf(n.Kids[0]) == 15 {
			return 15
		}
		return 16
	case api.NodeNew:
		return 16
	}
	return 17
}

// at is an expression's text at a level; in: a bare `in` may stand there.
func at(n api.Node, level int, in bool) string {
	if levelOf(n) < level || !in && n.Kind == api.NodeBinary && n.Op == "in" {
		return "(" + expression(n, true) + ")"
	}
	return expression(n, in)
}

// parts is a list of texts.
func parts(l []api.Node, in bool) string {
	var texts []string
	for _, x := range l {
		switch x.Kind {
		case api.NodeHole:
			texts = append(texts, "")
		case api.NodeProperty:
			texts = append(texts, key(x)+": "+at(x.Kids[0], 1, true))
		case api.NodeGetter:
			texts = append(texts, "get "+key(x)+strings.TrimPrefix(expression(x.Kids[0], true), "function"))
		case api.NodeSetter:
			texts = append(texts, "set "+key(x)+strings.TrimPrefix(expression(x.Kids[0], true), "function"))
		case api.NodeDeclarator:
			s := spelt(x)
			if len(x.Kids) == 1 {
				s += " = " + at(x.Kids[0], 1, in)
			}
			texts = append(texts, s)
		default:
			texts = append(texts, at(x, 1, in))
		}
	}
	return strings.Join(texts, ", ")
}

func key(n api.Node) string { return ustr.Encode(lexer.Quote(n.Str)) }

// spelt is a node's name.
func spelt(n api.Node) string {
	s, _ := lexer.Spell(n.Str)
	return ustr.Encode(s)
}

// expression is an expression's text.
func expression(n api.Node, in bool) string {
	kids := func(level ...int) []any {
		var l []any
		for i, k := range level {
			l = append(l, at(n.Kids[i], k, in))
		}
		return l
	}
	switch n.Kind {
	case api.NodeThis:
		return "this"
	case api.NodeNull:
		return "null"
	case api.NodeBool:
		return strconv.FormatBool(n.Flag)
	case api.NodeName:
		return spelt(n)
	case api.NodeNumber:
		return strings.Replace(ustr.Encode(numtext.Text(n.Num)), "Infinity", "1e999", 1)
	case api.NodeString:
		return key(n)
	case api.NodeArray:
		s := parts(n.Kids, true)
		if len(n.Kids) > 0 && n.Kids[len(n.Kids)-1].Kind == api.NodeHole {
			s += ","
		}
		return "[" + s + "]"
	case api.NodeObject:
		return "{" + parts(n.Kids, true) + "}"
	case api.NodeFunction, api.NodeDeclare:
		word := strings.TrimSpace("function " + spelt(n))
		k := len(n.Kids) - 1
		return word + "(" + parts(n.Kids[:k], true) + ") {\n" + statements(n.Kids[k].Kids) + "}"
	case api.NodeMember:
		if n.Kids[0].Kind == api.NodeNumber {
			return "(" + expression(n.Kids[0], true) + ")." + spelt(n)
		}
		return at(n.Kids[0], 15, in) + "." + spelt(n)
	case api.NodeIndex:
		return at(n.Kids[0], 15, in) + "[" + at(n.Kids[1], 0, true) + "]"
	case api.NodeNew:
		return "new " + at(n.Kids[0], 16, in) + "(" + parts(n.Kids[1:], true) + ")"
	case api.NodeCall:
		return at(n.Kids[0], 15, in) + "(" + parts(n.Kids[1:], true) + ")"
	case api.NodeUnary:
		s := at(n.Kids[0], 13, in)
		if strings.Contains(" delete void typeof ", " "+n.Op+" ") || strings.HasPrefix(s, n.Op[len(n.Op)-1:]) {
			s = " " + s
		}
		return n.Op + s
	case api.NodePostfix:
		return at(n.Kids[0], 15, in) + n.Op
	case api.NodeBinary, api.NodeLogical:
		k := opLevels()[n.Op]
		return fmt.Sprintf("%s "+strings.ReplaceAll(n.Op, "%", "%%")+" %s", kids(k, k+1)...)
	case api.NodeConditional:
		return at(n.Kids[0], 3, in) + " ? " + at(n.Kids[1], 1, true) + " : " + at(n.Kids[2], 1, in)
	case api.NodeAssign:
		return fmt.Sprintf("%s "+strings.ReplaceAll(n.Op, "%", "%%")+" %s", kids(15, 1)...)
	case api.NodeComma:
		return fmt.Sprintf("%s, %s", kids(0, 1)...)
	}
	return "?"
}

// statements is the text of some.
func statements(l []api.Node) string {
	var b strings.Builder
	for _, x := range l {
		b.WriteString(statement(x))
	}
	return b.String()
}

// head is the text of a part of a loop's head.
func head(n api.Node, level int, in bool) string {
	switch n.Kind {
	case api.NodeEmpty:
		return ""
	case api.NodeVar:
		return "var " + parts(n.Kids, in)
	}
	return at(n, level, in)
}

var blockLike = regexp.MustCompile(`^(\{|function |function\()`)

// statement is a statement's text, with its newline.
func statement(n api.Node) string {
	asked := func(i int) string { return at(n.Kids[i], 0, true) }
	inner := func(i int) string { return statement(n.Kids[i]) }
	switch n.Kind {
	case api.NodeProgram, api.NodeBody:
		return statements(n.Kids)
	case api.NodeDeclare:
		return expression(n, true) + "\n"
	case api.NodeBlock:
		return "{\n" + statements(n.Kids) + "}\n"
	case api.NodeVar:
		return head(n, 0, true) + ";\n"
	case api.NodeEmpty:
		return ";\n"
	case api.NodeExpr:
		s := asked(0)
		if blockLike.MatchString(s) {
			s = "(" + s + ")"
		}
		return s + ";\n"
	case api.NodeIf:
		s := "if (" + asked(0) + ")\n" + inner(1)
		if len(n.Kids) == 3 {
			s += "else\n" + inner(2)
		}
		return s
	case api.NodeDo:
		return "do\n" + inner(0) + "while (" + asked(1) + ");\n"
	case api.NodeWhile:
		return "while (" + asked(0) + ")\n" + inner(1)
	case api.NodeFor:
		return "for (" + head(n.Kids[0], 0, false) + "; " + head(n.Kids[1], 0, true) + "; " + head(n.Kids[2], 0, true) + ")\n" + inner(3)
	case api.NodeForIn:
		return "for (" + head(n.Kids[0], 15, false) + " in " + asked(1) + ")\n" + inner(2)
	case api.NodeContinue:
		return strings.TrimSpace("continue "+spelt(n)) + ";\n"
	case api.NodeBreak:
		return strings.TrimSpace("break "+spelt(n)) + ";\n"
	case api.NodeReturn:
		if len(n.Kids) == 0 {
			return "return;\n"
		}
		return "return " + asked(0) + ";\n"
	case api.NodeThrow:
		return "throw " + asked(0) + ";\n"
	case api.NodeLabel:
		return spelt(n) + ":\n" + inner(0)
	case api.NodeSwitch:
		return "switch (" + asked(0) + ") {\n" + statements(n.Kids[1:]) + "}\n"
	case api.NodeCase:
		if n.Flag {
			return "default:\n" + statements(n.Kids)
		}
		return "case " + asked(0) + ":\n" + statements(n.Kids[1:])
	case api.NodeTry:
		s := "try " + strings.TrimSuffix(inner(0), "\n")
		if c := n.Kids[1]; c.Kind == api.NodeCatch {
			s += " catch (" + spelt(c) + ") " + strings.TrimSuffix(statement(c.Kids[0]), "\n")
		}
		if n.Kids[2].Kind == api.NodeBlock {
			s += " finally " + strings.TrimSuffix(inner(2), "\n")
		}
		return s + "\n"
	case api.NodeDebugger:
		return "debugger;\n"
	}
	return "?"
}

// sign is the sign that stands for a Kind.
func sign(kind int) string { return string(rune(0x4E00 + kind)) }

// orders says by a regular expression what Kids each Kind has: E expressions, L left
// sides, S statements; a number a Kind. A Kind that is not named has none.
func orders() map[int]*regexp.Regexp {
	var e, l, s string
	for k := api.NodeThis; k <= api.NodeComma; k++ {
		if k == api.NodeHole || k == api.NodeProperty || k == api.NodeGetter || k == api.NodeSetter {
			continue
		}
		e += sign(k)
		if k <= api.NodeCall {
			l += sign(k)
		}
	}
	for k := api.NodeBlock; k <= api.NodeDebugger; k++ {
		if k != api.NodeDeclarator && k != api.NodeCase && k != api.NodeCatch {
			s += sign(k)
		}
	}
	replace := regexp.MustCompile(`[ELS]|\d+`)
	told := map[int]*regexp.Regexp{}
	for k, pattern := range map[int]string{
		api.NodeArray: "(E|8)*", api.NodeObject: "(10|11|12)*", api.NodeProperty: "E", api.NodeGetter: "13", api.NodeSetter: "13",
		api.NodeFunction: "2*41", api.NodeMember: "E", api.NodeIndex: "EE", api.NodeNew: "E+", api.NodeCall: "E+", api.NodeUnary: "E",
		api.NodePostfix: "L", api.NodeBinary: "EE", api.NodeLogical: "EE", api.NodeConditional: "EEE", api.NodeAssign: "LE", api.NodeComma: "EE",
		api.NodeProgram: "(S|42)*", api.NodeBody: "(S|42)*", api.NodeDeclare: "2*41", api.NodeBlock: "S*", api.NodeVar: "(45)+",
		api.NodeDeclarator: "E?", api.NodeExpr: "E", api.NodeIf: "ESS?", api.NodeDo: "SE", api.NodeWhile: "ES",
		api.NodeFor: "(44|46|E)(46|E)(46|E)S", api.NodeForIn: "(44|L)ES", api.NodeReturn: "E?", api.NodeLabel: "S", api.NodeSwitch: "E(58)*",
		api.NodeCase: "E?S*", api.NodeThrow: "E", api.NodeTry: "43 (61 (46|43)|46 43)", api.NodeCatch: "43",
	} {
		told[k] = regexp.MustCompile("^(" + strings.ReplaceAll(replace.ReplaceAllStringFunc(pattern, func(x string) string {
			switch x {
			case "E":
				return "[" + e + "]"
			case "L":
				return "[" + l + "]"
			case "S":
				return "[" + s + "]"
			}
			k, _ := strconv.Atoi(x)
			return sign(k)
		}), " ", "") + ")$")
	}
	return told
}

// ops is what each Kind's Op may be.
func ops() map[int][]string {
	return map[int][]string{
		api.NodeUnary:   strings.Fields("delete void typeof ++ -- + - ~ !"),
		api.NodePostfix: strings.Fields("++ --"),
		api.NodeBinary:  strings.Fields("* / % + - << >> >>> < > <= >= instanceof in == != === !== & ^ |"),
		api.NodeLogical: strings.Fields("&& ||"),
		api.NodeAssign:  strings.Fields("= *= /= %= += -= <<= >>= >>>= &= ^= |="),
	}
}

// oracle tells whether trees may be.
type oracle struct {
	orders map[int]*regexp.Regexp
	ops    map[int][]string
}

func newOracle() *oracle { return &oracle{orders(), ops()} }

// may tells whether a tree may be, but for how great it is.
func (o *oracle) may(n api.Node) bool { return n.Kind == api.NodeProgram && o.all(n) }

func (o *oracle) all(n api.Node) bool {
	return o.one(n) && !slices.ContainsFunc(n.Kids, func(x api.Node) bool { return !o.all(x) })
}

// one tells whether a node may be.
func (o *oracle) one(n api.Node) bool {
	signs := ""
	for _, x := range n.Kids {
		signs += sign(x.Kind)
	}
	if r := o.orders[n.Kind]; r == nil && signs != "" || r != nil && !r.MatchString(signs) {
		return false
	}
	if l := o.ops[n.Kind]; l == nil && n.Op != "" || l != nil && !slices.Contains(l, n.Op) {
		return false
	}
	if n.Kind != api.NodeNumber && math.Float64bits(n.Num) != 0 || n.Num != n.Num || math.Signbit(n.Num) {
		return false
	}
	if n.Flag && n.Kind != api.NodeBool && n.Kind != api.NodeCase {
		return false
	}
	return o.str(n) && o.more(n)
}

// str tells whether a node's Str may be.
func (o *oracle) str(n api.Node) bool {
	isName := lexer.Named(n.Str) && len(n.Str)%2 == 0
	switch n.Kind {
	case api.NodeString, api.NodeProperty, api.NodeGetter, api.NodeSetter:
		return len(n.Str)%2 == 0
	case api.NodeMember:
		return isName
	case api.NodeName, api.NodeDeclare, api.NodeDeclarator, api.NodeLabel, api.NodeCatch:
		return isName && !lexer.Reserved(n.Str)
	case api.NodeFunction, api.NodeContinue, api.NodeBreak:
		return n.Str == "" || isName && !lexer.Reserved(n.Str)
	}
	return n.Str == ""
}

// more is what Kinds of Kids alone do not tell.
func (o *oracle) more(n api.Node) bool {
	switch n.Kind {
	case api.NodeGetter, api.NodeSetter:
		f := n.Kids[0]
		return f.Str == "" && len(f.Kids) == n.Kind-api.NodeGetter+1
	case api.NodeUnary:
		return !strings.Contains("++--", n.Op) || len(n.Op) == 1 || n.Kids[0].Kind <= api.NodeCall
	case api.NodeIf:
		return len(n.Kids) == 2 || !open(n.Kids[1])
	case api.NodeForIn:
		return n.Kids[0].Kind != api.NodeVar || len(n.Kids[0].Kids) == 1
	case api.NodeSwitch:
		count := 0
		for _, x := range n.Kids[1:] {
			if x.Flag {
				count++
			}
		}
		return count < 2
	case api.NodeCase:
		return n.Flag == (len(n.Kids) == 0 || n.Kids[0].Kind > api.NodeComma)
	}
	return true
}

// open tells whether a statement has an open end.
func open(n api.Node) bool {
	switch n.Kind {
	case api.NodeIf:
		return len(n.Kids) == 2 || len(n.Kids) == 3 && open(n.Kids[2])
	case api.NodeWhile, api.NodeFor, api.NodeForIn, api.NodeLabel:
		return len(n.Kids) > 0 && open(n.Kids[len(n.Kids)-1])
	}
	return false
}

// seen is a tree in short, for what a test says.
func seen(n api.Node) string {
	if ast.Size(n) == 0 || ast.Size(n) > 200 {
		return fmt.Sprintf("(a tree of %d nodes)", ast.Size(n))
	}
	return fmt.Sprintf("%+v", n)
}
