package parser_test

import (
	"strconv"
	"testing"

	"quill/api"
	"quill/parser"
	"quill/ustr"
)

func TestPa2Operands(t *testing.T) {
	for src, want := range map[string]string{
		"this":                       "this0",
		" a":                         "name1:a",
		`\u0061b`:                    "name0:ab",
		"é":                          "name0:é",
		"get":                        "name0:get",
		"undefined":                  "name0:undefined",
		"null":                       "null0",
		"true":                       "bool0:true",
		"false":                      "bool0",
		"0":                          "number0:0",
		"0x1F":                       "number0:31",
		"1.5e3":                      "number0:1500",
		"1e999":                      "number0:Infinity",
		`"a"`:                        "string0:a",
		`''`:                         "string0",
		"'if'":                       "string0:if",
		`"\x41"`:                     "string0:A",
		"(a)":                        "name1:a",
		"((a))":                      "name2:a",
		"[]":                         "array0",
		"[,]":                        "array0(hole1)",
		"[,,]":                       "array0(hole1 hole2)",
		"[a]":                        "array0(name1:a)",
		"[a,]":                       "array0(name1:a)",
		"[a,,]":                      "array0(name1:a hole3)",
		"[a,b]":                      "array0(name1:a name3:b)",
		"[1,,2,]":                    "array0(number1:1 hole3 number4:2)",
		"[,a]":                       "array0(hole1 name2:a)",
		"[ , , a , , b = c , ]":      "array0(hole2 hole4 name6:a hole10 assign12:=(name12:b name16:c))",
		"[(a,b)]":                    "array0(comma2(name2:a name4:b))",
		"[a in b]":                   "array0(binary1:in(name1:a name6:b))",
		"function(){}":               "function0(body10)",
		"function f(){}":             "function0:f(body12)",
		"function get(set, a) {}":    "function0:get(name13:set name18:a body21)",
		"function(a){b}":             "function0(name9:a body11(expr12(name12:b)))",
		"function(){function a(){}}": "function0(body10(declare11:a(body23)))",
		"function(){return}":         "function0(body10(return11))",
	} {
		reads(t, parser.Expression, src, want)
	}
}

func TestPa2Objects(t *testing.T) {
	for src, want := range map[string]string{
		"{}":                         "object0",
		"{a:1}":                      "object0(property1:a(number3:1))",
		"{a:1,}":                     "object0(property1:a(number3:1))",
		"{ a : b , c : d = e }":      "object0(property2:a(name6:b) property10:c(assign14:=(name14:d name18:e)))",
		"{if:1}":                     "object0(property1:if(number4:1))",
		`{\u0069f:1}`:                "object0(property1:if(number9:1))",
		`{"a b":(1)}`:                "object0(property1:a b(number8:1))",
		"{'':1}":                     "object0(property1(number4:1))",
		"{1:1}":                      "object0(property1:1(number3:1))",
		"{0x10:1,1.50:2,1e21:3}":     "object0(property1:16(number6:1) property8:1.5(number13:2) property15:1e+21(number20:3))",
		"{get:1}":                    "object0(property1:get(number5:1))",
		"{set:1}":                    "object0(property1:set(number5:1))",
		"{get a(){}}":                "object0(getter1:a(function6(body8)))",
		"{get\na\n(\n)\n{\n}}":       "object0(getter1:a(function7(body11)))",
		"{set a(b){}}":               "object0(setter1:a(function6(name7:b body9)))",
		"{get get(){}}":              "object0(getter1:get(function8(body10)))",
		"{get set(){},set get(a){}}": "object0(getter1:set(function8(body10)) setter13:get(function20(name21:a body23)))",
		"{get if(){}}":               "object0(getter1:if(function7(body9)))",
		`{get \u0069f(){}}`:          "object0(getter1:if(function12(body14)))",
		"{get 'a b'(){}}":            "object0(getter1:a b(function10(body12)))",
		"{set 0x1(a){}}":             "object0(setter1:1(function8(name9:a body11)))",
		"{get a(){return b in c}}":   "object0(getter1:a(function6(body8(return9(binary16:in(name16:b name21:c))))))",
		`{\u0067et:1}`:               "object0(property1:get(number10:1))",
		"{'get':1}":                  "object0(property1:get(number7:1))",
		"{a:{b:{}}}":                 "object0(property1:a(object3(property4:b(object6))))",
		"{a:1,a:2,get a(){}}":        "object0(property1:a(number3:1) property5:a(number7:2) getter9:a(function14(body16)))",
		"{a:b in c}":                 "object0(property1:a(binary3:in(name3:b name8:c)))",
	} {
		reads(t, parser.Expression, src, want)
	}
}

func TestPa2MembersAndCalls(t *testing.T) {
	for src, want := range map[string]string{
		"a.b":              "member0:b(name0:a)",
		"a.if":             "member0:if(name0:a)",
		`a.\u0069f`:        "member0:if(name0:a)",
		"a\n.\nb":          "member0:b(name0:a)",
		"a.b.c":            "member0:c(member0:b(name0:a))",
		"1..a":             "member0:a(number0:1)",
		"a[b]":             "index0(name0:a name2:b)",
		"a[b,c]":           "index0(name0:a comma2(name2:b name4:c))",
		"a[b in c]":        "index0(name0:a binary2:in(name2:b name7:c))",
		"a[b].c[d]":        "index0(member0:c(index0(name0:a name2:b)) name7:d)",
		"a()":              "call0(name0:a)",
		"a(b)":             "call0(name0:a name2:b)",
		"a(b,c = d,(e,f))": "call0(name0:a name2:b assign4:=(name4:c name8:d) comma11(name11:e name13:f))",
		"a()()":            "call0(call0(name0:a))",
		"a().b[c](d)":      "call0(index0(member0:b(call0(name0:a)) name6:c) name9:d)",
		"a\n(b)":           "call0(name0:a name3:b)",
		"a\n[b]":           "index0(name0:a name3:b)",
		"(a).b":            "member0:b(name1:a)",
		"(a.b).c":          "member0:c(member1:b(name1:a))",
		"((a))(b)":         "call0(name2:a name6:b)",
		"(a)[(b)]":         "index0(name1:a name5:b)",
		"(a + b).c":        "member0:c(binary1:+(name1:a name5:b))",
		"{}.a":             "member0:a(object0)",
		"function(){}()":   "call0(function0(body10))",
		"'a'.b":            "member0:b(string0:a)",
		"new a":            "new0(name4:a)",
		"new a()":          "new0(name4:a)",
		"new a(b,c)":       "new0(name4:a name6:b name8:c)",
		"new\na\n(b)":      "new0(name4:a name7:b)",
		"new a.b":          "new0(member4:b(name4:a))",
		"new a.b(c)":       "new0(member4:b(name4:a) name8:c)",
		"new a[b](c)":      "new0(index4(name4:a name6:b) name9:c)",
		"new a().b":        "member0:b(new0(name4:a))",
		"new a()()":        "call0(new0(name4:a))",
		"new a()[b]()":     "call0(index0(new0(name4:a) name8:b))",
		"new new a":        "new0(new4(name8:a))",
		"new new a()":      "new0(new4(name8:a))",
		"new new a(b)(c)":  "new0(new4(name8:a name10:b) name13:c)",
		"new new a().b(c)": "new0(member4:b(new4(name8:a)) name14:c)",
		"new new a()()()":  "call0(new0(new4(name8:a)))",
		"new (a)":          "new0(name5:a)",
		"new (a())":        "new0(call5(name5:a))",
		"new (a())()":      "new0(call5(name5:a))",
		"new (a().b)(c)":   "new0(member5:b(call5(name5:a)) name12:c)",
		"new (a).b(c)":     "new0(member4:b(name5:a) name10:c)",
		"(new a)()":        "call0(new1(name5:a))",
		"(new a).b":        "member0:b(new1(name5:a))",
		"new function(){}": "new0(function4(body14))",
		"new {}":           "new0(object4)",
		"new this.a":       "new0(member4:a(this4))",
		"new 1":            "new0(number4:1)",
		"new a++":          "postfix0:++(new0(name4:a))",
		"new a = b":        "assign0:=(new0(name4:a) name8:b)",
	} {
		reads(t, parser.Expression, src, want)
	}
}

func TestPa2OperatorsOfOne(t *testing.T) {
	for _, op := range []string{"delete", "void", "typeof", "++", "--", "+", "-", "~", "!"} {
		want := "unary0:" + op + "(name" + strconv.Itoa(len(op)+1) + ":a)"
		reads(t, parser.Expression, op+" a", want)
		reads(t, parser.Expression, op+"\na", want)
		reads(t, parser.Expression, op+"(a)", want)
	}
	for src, want := range map[string]string{
		"a++":            "postfix0:++(name0:a)",
		"a --":           "postfix0:--(name0:a)",
		"(a)++":          "postfix0:++(name1:a)",
		"a.b++":          "postfix0:++(member0:b(name0:a))",
		"a()--":          "postfix0:--(call0(name0:a))",
		"1++":            "postfix0:++(number0:1)",
		"this++":         "postfix0:++(this0)",
		"[]++":           "postfix0:++(array0)",
		"{}++":           "postfix0:++(object0)",
		"function(){}++": "postfix0:++(function0(body10))",
		"null++":         "postfix0:++(null0)",
		"'a'--":          "postfix0:--(string0:a)",
		"++1":            "unary0:++(number2:1)",
		"--this":         "unary0:--(this2)",
		"++a.b":          "unary0:++(member2:b(name2:a))",
		"++a()":          "unary0:++(call2(name2:a))",
		"++new a":        "unary0:++(new2(name6:a))",
		"++(a)":          "unary0:++(name3:a)",
		"++((a + b).c)":  "unary0:++(member3:c(binary4:+(name4:a name8:b)))",
		"++(a + b).c":    "unary0:++(member2:c(binary3:+(name3:a name7:b)))",
		"-a++":           "unary0:-(postfix1:++(name1:a))",
		"- -a":           "unary0:-(unary2:-(name3:a))",
		"!++a":           "unary0:!(unary1:++(name3:a))",
		"typeof void a":  "unary0:typeof(unary7:void(name12:a))",
		"delete a.b":     "unary0:delete(member7:b(name7:a))",
		"-a.b":           "unary0:-(member1:b(name1:a))",
		"-a()":           "unary0:-(call1(name1:a))",
		"-(a)()":         "unary0:-(call1(name2:a))",
		"(-a)()":         "call0(unary1:-(name2:a))",
		"a+++b":          "binary0:+(postfix0:++(name0:a) name4:b)",
		"a+ ++b":         "binary0:+(name0:a unary3:++(name5:b))",
		"a- -b":          "binary0:-(name0:a unary3:-(name4:b))",
		"a++\n+ ++b":     "binary0:+(postfix0:++(name0:a) unary6:++(name8:b))",
	} {
		reads(t, parser.Expression, src, want)
	}
}

// operators are those of two, by their levels, from the least one on.
func operators() [][]string {
	return [][]string{
		{"||"}, {"&&"}, {"|"}, {"^"}, {"&"}, {"==", "!=", "===", "!=="}, {"<", ">", "<=", ">=", "instanceof", "in"},
		{"<<", ">>", ">>>"}, {"+", "-"}, {"*", "/", "%"},
	}
}

// binary is a node of two, with its kind's word.
func binary(op string) string {
	if op == "||" || op == "&&" {
		return "logical0:" + op
	}
	return "binary0:" + op
}

// Of two operators the one of the greater level binds; of one level the left one.
func TestPa2OperatorsOfTwo(t *testing.T) {
	n := func(op string, x, y api.Node) api.Node {
		kind := api.NodeBinary
		if op == "||" || op == "&&" {
			kind = api.NodeLogical
		}
		return api.Node{Kind: kind, Op: op, Kids: []api.Node{x, y}, Pos: x.Pos}
	}
	at := func(s string, pos int) api.Node {
		return api.Node{Kind: api.NodeName, Str: ustr.Wide(s), Pos: pos}
	}
	levels := operators()
	for i, l := range levels {
		for _, op := range l {
			reads(t, parser.Expression, "a "+op+" b", binary(op)+"(name0:a name"+strconv.Itoa(3+len(op))+":b)")
			for j, m := range levels {
				for _, other := range m {
					src := "a " + op + " b " + other + " c"
					a, b, c := at("a", 0), at("b", 3+len(op)), at("c", 6+len(op)+len(other))
					want := n(other, n(op, a, b), c)
					if i < j {
						want = n(op, a, n(other, b, c))
					}
					if x, _, errno := parser.Expression(ustr.Wide(src), 9); !alike(x, want) || errno != api.OK {
						t.Errorf("%s: %s, error %d", src, told(x), errno)
					}
				}
			}
		}
	}
}

func TestPa2FurtherOperators(t *testing.T) {
	for src, want := range map[string]string{
		"a-b-c":             "binary0:-(binary0:-(name0:a name2:b) name4:c)",
		"a-(b-c)":           "binary0:-(name0:a binary3:-(name3:b name5:c))",
		"(a-b)-c":           "binary0:-(binary1:-(name1:a name3:b) name6:c)",
		"(a+b)*c":           "binary0:*(binary1:+(name1:a name3:b) name6:c)",
		"a*(b)+c":           "binary0:+(binary0:*(name0:a name3:b) name6:c)",
		"a+(b)*c":           "binary0:+(name0:a binary2:*(name3:b name6:c))",
		"a\n/b/\nc":         "binary0:/(binary0:/(name0:a name3:b) name6:c)",
		"a in b in c":       "binary0:in(binary0:in(name0:a name5:b) name10:c)",
		"-a*-b":             "binary0:*(unary0:-(name1:a) unary3:-(name4:b))",
		"a?b:c":             "conditional0(name0:a name2:b name4:c)",
		"(a)?(b):(c)":       "conditional0(name1:a name5:b name9:c)",
		"a?b:c?d:e":         "conditional0(name0:a name2:b conditional4(name4:c name6:d name8:e))",
		"a?b?c:d:e":         "conditional0(name0:a conditional2(name2:b name4:c name6:d) name8:e)",
		"(a?b:c)?d:e":       "conditional0(conditional1(name1:a name3:b name5:c) name8:d name10:e)",
		"a||b?c:d":          "conditional0(logical0:||(name0:a name3:b) name5:c name7:d)",
		"a?b=c:d=e":         "conditional0(name0:a assign2:=(name2:b name4:c) assign6:=(name6:d name8:e))",
		"a?b in c:d in e":   "conditional0(name0:a binary2:in(name2:b name7:c) binary9:in(name9:d name14:e))",
		"a=b?c:d":           "assign0:=(name0:a conditional2(name2:b name4:c name6:d))",
		"a=b=c":             "assign0:=(name0:a assign2:=(name2:b name4:c))",
		"(a)=b":             "assign0:=(name1:a name4:b)",
		"a=(b=c)":           "assign0:=(name0:a assign3:=(name3:b name5:c))",
		"a.b=c":             "assign0:=(member0:b(name0:a) name4:c)",
		"a()=b":             "assign0:=(call0(name0:a) name4:b)",
		"1=2":               "assign0:=(number0:1 number2:2)",
		"{}=[]":             "assign0:=(object0 array3)",
		"a=b||c":            "assign0:=(name0:a logical2:||(name2:b name5:c))",
		"a\n=\nb":           "assign0:=(name0:a name4:b)",
		"a,b":               "comma0(name0:a name2:b)",
		"a,b,c":             "comma0(comma0(name0:a name2:b) name4:c)",
		"a,(b,c)":           "comma0(name0:a comma3(name3:b name5:c))",
		"((a),b),c":         "comma0(comma1(name2:a name5:b) name8:c)",
		"a=b,c=d":           "comma0(assign0:=(name0:a name2:b) assign4:=(name4:c name6:d))",
		"a = b + c * d , e": "comma0(assign0:=(name0:a binary4:+(name4:b binary8:*(name8:c name12:d))) name16:e)",
	} {
		reads(t, parser.Expression, src, want)
	}
	for _, op := range []string{"=", "*=", "/=", "%=", "+=", "-=", "<<=", ">>=", ">>>=", "&=", "^=", "|="} {
		at := strconv.Itoa(1 + len(op))
		reads(t, parser.Expression, "a"+op+"b", "assign0:"+op+"(name0:a name"+at+":b)")
	}
}

// An Expression is all of its source: there are no semicolons, written or not.
func TestPa2All(t *testing.T) {
	for src, want := range map[string]int{
		"": 0, " \n": 2, "a b": 2, "a;": 1, "a\nb": 2, "a\n++b": 2, ";": 0, "a }": 2, "var a": 0, "a,": 2, "a:b": 1, "(a": 2, "a)": 1, "if(a)b": 0, "throw a": 0, "{a}": 2, "{1:2}}": 5,
	} {
		refuses(t, parser.Expression, text(t, src), 99, want, api.ErrSyntax)
	}
}
