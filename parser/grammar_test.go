package parser_test

import (
	"slices"
	"strings"

	"quill/api"
	"quill/ustr"
)

// The grammar of the clauses a second time, as rules. A sign that is no rule's name is
// a token; but for `name`, `number`, `string`, `word` (reserved, escaped too), `get` and
// `set` (names of these Texts, not escaped), `~` (no line ended ahead of the next token),
// `plain` (the next token is neither `{` nor `function`), and `end` (a `;` that may be
// inserted). What has the sign % stands twice: with `in`, and, with a - for it, without.
//
// Left sides are told from all other expressions (Left, ..No) at each level. Some wrong
// ones have rules, too: RaisedNo, of which the operator is told, and SteppedNo, of which
// the sign.
func rules() map[string][]string {
	text := map[string][]string{
		"Program":    {"", "Program Element"},
		"Element":    {"Statement", "function name ( Parameters ) { Body }"},
		"Body":       {"", "Body Element"},
		"Parameters": {"", "Names"},
		"Names":      {"name", "Names , name"},
		"Statement": {
			"Block", "var Variables end", ";", "plain Expression end", "if ( Expression ) Statement else Statement", "if ( Expression ) Statement",
			"do Statement while ( Expression ) end", "while ( Expression ) Statement", "for ( First ; Maybe ; Maybe ) Statement",
			"for ( Left in Expression ) Statement", "for ( var Variable- in Expression ) Statement",
			"continue end", "continue ~ name end", "break end", "break ~ name end", "return end", "return ~ Expression end",
			"switch ( Expression ) { Cases }", "switch ( Expression ) { Cases default : Statements Cases }",
			"name : Statement", "throw ~ Expression end", "try Block Catch", "try Block Finally", "try Block Catch Finally", "debugger end",
		},
		"Block":       {"{ Statements }"},
		"Statements":  {"", "Statements Statement"},
		"Variables%":  {"Variable%", "Variables% , Variable%"},
		"Variable%":   {"name", "name = Assignment%"},
		"First":       {"", "Expression-", "var Variables-"},
		"Maybe":       {"", "Expression"},
		"Cases":       {"", "Cases case Expression : Statements"},
		"Catch":       {"catch ( name ) Block"},
		"Finally":     {"finally Block"},
		"Function":    {"function ( Parameters ) { Body }", "function name ( Parameters ) { Body }"},
		"Primary":     {"this", "name", "null", "true", "false", "number", "string", "Array", "Object", "( Left )"},
		"Array":       {"[ ]", "[ Elision ]", "[ Elements ]", "[ Elements , ]", "[ Elements , Elision ]"},
		"Elements":    {"Assignment", "Elision Assignment", "Elements , Assignment", "Elements , Elision Assignment"},
		"Elision":     {",", "Elision ,"},
		"Object":      {"{ }", "{ Properties }", "{ Properties , }"},
		"Properties":  {"Property", "Properties , Property"},
		"Property":    {"Key : Assignment", "get Key ( ) { Body }", "set Key ( name ) { Body }"},
		"Key":         {"name", "word", "string", "number"},
		"Named":       {"name", "word"},
		"MemberYes":   {"Primary", "Function", "Member [ Expression ]", "Member . Named", "new Member Arguments"},
		"MemberNo":    {"( ExpressionNo )"},
		"Member":      {"MemberYes", "MemberNo"},
		"NewYes":      {"MemberYes", "new New"},
		"New":         {"NewYes", "MemberNo"},
		"Call":        {"Member Arguments", "Call Arguments", "Call [ Expression ]", "Call . Named"},
		"Arguments":   {"( )", "( List )"},
		"List":        {"Assignment", "List , Assignment"},
		"Left":        {"NewYes", "Call"},
		"RaisedNo":    {"MemberNo ~ ++", "MemberNo ~ --"},
		"PostfixNo":   {"MemberNo", "Left ~ ++", "Left ~ --", "RaisedNo"},
		"SteppedNo":   {"++ UnaryNo", "-- UnaryNo"},
		"UnaryNo":     {"PostfixNo", "++ Left", "-- Left", "SteppedNo"},
		"Unary":       {"Left", "UnaryNo"},
		"Binary10No%": {"UnaryNo"},
		"Binary10%":   {"Left", "Binary10No%"},
	}
	for _, op := range strings.Fields("delete void typeof + - ~ !") {
		text["UnaryNo"] = append(text["UnaryNo"], strings.Replace(op, "~", "tilde", 1)+" Unary")
	}
	for i, l := range operators() {
		level, above := "Binary"+string(rune('0'+i)), "Binary"+string(rune('1'+i))
		if i == 9 {
			above = "Binary10"
		}
		text[level+"No%"] = []string{above + "No%"}
		text[level+"%"] = []string{"Left", level + "No%"}
		for _, op := range l {
			text[level+"No%"] = append(text[level+"No%"], level+"% "+op+" "+above+"%")
		}
	}
	text["ConditionalNo%"] = []string{"Binary0No%", "Binary0% ? Assignment : Assignment%"}
	text["AssignmentNo%"] = []string{"ConditionalNo%"}
	for _, op := range strings.Fields("= *= /= %= += -= <<= >>= >>>= &= ^= |=") {
		text["AssignmentNo%"] = append(text["AssignmentNo%"], "Left "+op+" Assignment%")
	}
	text["Assignment%"] = []string{"Left", "AssignmentNo%"}
	text["ExpressionNo%"] = []string{"AssignmentNo%", "Expression% , Assignment%"}
	text["Expression%"] = []string{"Left", "ExpressionNo%"}
	return twice(text)
}

// twice is rules with and without `in`.
func twice(text map[string][]string) map[string][]string {
	sign := func(s, in string) string {
		if name := strings.TrimSuffix(s, "%"); name != s && name != "" {
			return name + in
		}
		return s
	}
	told := map[string][]string{}
	for name, l := range text {
		for _, in := range []string{"", "-"} {
			var made []string
			for _, alternative := range l {
				signs := strings.Fields(alternative)
				if in == "-" && len(signs) == 3 && signs[1] == "in" && strings.HasSuffix(name, "%") {
					continue
				}
				for i, s := range signs {
					signs[i] = sign(s, in)
				}
				made = append(made, strings.Join(signs, " "))
			}
			told[sign(name, in)] = made
		}
	}
	return told
}

// rule is one of a grammar's: a sign and what it may be.
type rule struct {
	name  int
	signs []int
}

// grammar is rules by numbers: a rule's name has a number, and each token's sign.
type grammar struct {
	numbers map[string]int
	words   []string
	rules   []rule
	named   map[int][]int // the rules of a name
}

func newGrammar() *grammar {
	g := &grammar{numbers: map[string]int{}, named: map[int][]int{}}
	text := rules()
	var names []string
	for name := range text {
		names = append(names, name)
	}
	slices.Sort(names)
	for _, name := range names {
		for _, alternative := range text[name] {
			r := rule{name: g.number(name)}
			for _, s := range strings.Fields(alternative) {
				r.signs = append(r.signs, g.number(s))
			}
			g.named[r.name] = append(g.named[r.name], len(g.rules))
			g.rules = append(g.rules, r)
		}
	}
	return g
}

// number is a sign's.
func (g *grammar) number(s string) int {
	i, ok := g.numbers[s]
	if !ok {
		i = len(g.words)
		g.numbers[s] = i
		g.words = append(g.words, s)
	}
	return i
}

// item is how far a rule is read, which began at one of the sets.
type item struct{ rule, dot, from int }

// set is all items behind a token.
type set struct {
	items   []item
	met     map[item]bool
	waiting map[int][]item // by what comes next
	nothing map[int]bool   // names that are read as nothing here
	token   int            // the number of the token that comes
}

// chart reads tokens by a grammar, by Earley's way.
type chart struct {
	g      *grammar
	sets   []*set
	tokens []api.Token
}

// newChart reads what a rule's name stands for.
func newChart(g *grammar, name string) *chart {
	c := &chart{g: g}
	s := c.newSet()
	c.expect(s, g.numbers[name])
	c.sets = append(c.sets, s)
	return c
}

func (c *chart) newSet() *set {
	return &set{met: map[item]bool{}, waiting: map[int][]item{}, nothing: map[int]bool{}, token: len(c.tokens)}
}

func (c *chart) add(s *set, x item) {
	if !s.met[x] {
		s.met[x] = true
		s.items = append(s.items, x)
	}
}

// expect adds the rules of a name.
func (c *chart) expect(s *set, name int) {
	for _, r := range c.g.named[name] {
		c.add(s, item{r, 0, len(c.sets)})
	}
}

// close adds what follows from a set's items: it is to be the next of the chart. t is
// the token that comes.
func (c *chart) close(s *set, t api.Token) {
	for i := 0; i < len(s.items); i++ {
		x := s.items[i]
		r := c.g.rules[x.rule]
		if x.dot == len(r.signs) {
			from := s
			if x.from < len(c.sets) {
				from = c.sets[x.from]
			} else {
				s.nothing[r.name] = true
			}
			for _, y := range from.waiting[r.name] {
				c.add(s, item{y.rule, y.dot + 1, y.from})
			}
			continue
		}
		next := r.signs[x.dot]
		s.waiting[next] = append(s.waiting[next], x)
		switch c.g.words[next] {
		case "~":
			if !t.Newline {
				c.add(s, item{x.rule, x.dot + 1, x.from})
			}
		case "plain":
			if z := signOf(t); z != "{" && z != "function" {
				c.add(s, item{x.rule, x.dot + 1, x.from})
			}
		}
		c.expect(s, next)
		if s.nothing[next] {
			c.add(s, item{x.rule, x.dot + 1, x.from})
		}
	}
}

// signOf is how a mark or a word is written that is not escaped.
func signOf(t api.Token) string {
	if t.Kind == api.TokenMark || t.Kind == api.TokenWord && !t.Escaped {
		return ustr.Encode(t.Text)
	}
	return ""
}

// signsOf are the grammar's signs that a token is.
func signsOf(t api.Token) []string {
	s := ustr.Encode(t.Text)
	switch t.Kind {
	case api.TokenName:
		if !t.Escaped && (s == "get" || s == "set") {
			return []string{"name", s}
		}
		return []string{"name"}
	case api.TokenWord:
		if t.Escaped {
			return []string{"word"}
		}
		return []string{"word", s}
	case api.TokenNumber:
		return []string{"number"}
	case api.TokenString:
		return []string{"string"}
	case api.TokenMark:
		switch s {
		case "~":
			return []string{"tilde"}
		case ";":
			return []string{";", "end"}
		}
		return []string{s}
	}
	return nil
}

// scan is the items of a set that go on by one of these signs.
func (c *chart) scan(s *set, signs []string) []item {
	var l []item
	for _, sign := range signs {
		if i, ok := c.g.numbers[sign]; ok && c.g.named[i] == nil {
			l = append(l, s.waiting[i]...)
		}
	}
	return l
}

// last is the set that is to be read on from.
func (c *chart) last() *set { return c.sets[len(c.sets)-1] }

// goOn adds a set with these items, a token further on.
func (c *chart) goOn(l []item) {
	s := c.newSet()
	for _, x := range l {
		c.add(s, item{x.rule, x.dot + 1, x.from})
	}
	c.sets = append(c.sets, s)
}

// closed closes the last set: its rules may hang on the token that comes.
func (c *chart) closed(t api.Token) *set {
	s := c.last()
	c.sets = c.sets[:len(c.sets)-1]
	c.close(s, t)
	c.sets = append(c.sets, s)
	return s
}

// wrongSign is the place of a sign ahead of what is no left side, if the token that
// comes does not go on with that; -1, if there is none.
func (c *chart) wrongSign(s *set, on []item) int {
	from := -1
	for _, x := range s.items {
		if r := c.g.rules[x.rule]; c.g.words[r.name] != "SteppedNo" || x.dot < len(r.signs) {
			continue
		}
		if !slices.ContainsFunc(on, func(y item) bool { return y.from > x.from }) {
			from = max(from, x.from)
		}
	}
	if from < 0 {
		return -1
	}
	return c.tokens[c.sets[from].token].Pos
}

// next reads a token: the place of what can't stand, or -1. Of the TokenEnd: all is
// read that is to be.
func (c *chart) next(t api.Token, start string) int {
	s := c.closed(t)
	on := c.scan(s, signsOf(t))
	if place := c.wrongSign(s, on); place >= 0 {
		return place
	}
	end := t.Kind == api.TokenEnd
	if len(on) == 0 && !(end && c.whole(s, start)) && (end || t.Newline || signOf(t) == "}") {
		c.goOn(c.scan(s, []string{"end"}))
		s = c.closed(t)
		on = c.scan(s, signsOf(t))
	}
	if end {
		if c.whole(s, start) {
			return -1
		}
		return t.Pos
	}
	for _, x := range on {
		if c.g.words[c.g.rules[x.rule].name] == "RaisedNo" {
			return t.Pos
		}
	}
	if len(on) == 0 {
		return t.Pos
	}
	c.tokens = append(c.tokens, t)
	c.goOn(on)
	return -1
}

// whole tells whether all is read that a name stands for.
func (c *chart) whole(s *set, start string) bool {
	for _, x := range s.items {
		if r := c.g.rules[x.rule]; r.name == c.g.numbers[start] && x.dot == len(r.signs) && x.from == 0 {
			return true
		}
	}
	return false
}

// fork is a chart of its own that has read the same.
func (c *chart) fork() *chart {
	l := slices.Clone(c.sets)
	s := *c.last()
	s.items, s.met, s.waiting, s.nothing = slices.Clone(s.items), map[item]bool{}, map[int][]item{}, map[int]bool{}
	for _, x := range s.items {
		s.met[x] = true
	}
	l[len(l)-1] = &s
	return &chart{c.g, l, slices.Clone(c.tokens)}
}

// place is where a source's tokens can't stand: -1, if they are what a name stands for.
func (g *grammar) place(start string, l []api.Token) int {
	c := newChart(g, start)
	for _, t := range l {
		if place := c.next(t, start); place >= 0 {
			return place
		}
	}
	return -1
}
