package parser

import (
	"quill/api"
	"quill/lexer"
)

// tokens are a source's, up to its end. Those beyond what may be are read, too, as what
// can't be read is told ahead of that they are too many; but they are not kept.
func tokens(src string) ([]api.Token, int, api.Errno) {
	var l []api.Token
	count, at := 0, 0
	for {
		t, place, errno := lexer.Next(src, at, false)
		if errno != api.OK {
			return nil, place, errno
		}
		if count++; count <= api.MaxTokens {
			l = append(l, t)
		}
		if t.Kind == api.TokenEnd {
			break
		}
		at = t.End
	}
	if count > api.MaxTokens {
		return nil, 0, api.ErrLong
	}
	return l, 0, api.OK
}

// parser stands at one of a source's tokens.
type parser struct {
	rest   []api.Token // the current one, and those behind it
	sign   string      // of the current one
	starts map[string]func(p *parser) *api.Node
}

// newParser stands at the first token.
func newParser(l []api.Token) *parser {
	return &parser{l, sign(l[0]), starts()}
}

// sign is how a mark is written, or a word of the grammar: an escaped one is none, and
// has no sign, nor has any other token.
func sign(t api.Token) string {
	if t.Kind != api.TokenMark && (t.Kind != api.TokenWord || t.Escaped) {
		return ""
	}
	b := make([]byte, len(t.Text)/2)
	for i := range b {
		b[i] = t.Text[2*i+1]
	}
	return string(b)
}

// next is the current token, and goes on to the one behind it.
func (p *parser) next() api.Token {
	t := p.rest[0]
	p.rest = p.rest[1:]
	p.sign = sign(p.rest[0])
	return t
}

// operator is the current token's sign, and goes on to the token behind it.
func (p *parser) operator() string {
	s := p.sign
	p.next()
	return s
}

// pos is where the current token begins.
func (p *parser) pos() int { return p.rest[0].Pos }

// is tells whether the current token is of a Kind.
func (p *parser) is(kind int) bool { return p.rest[0].Kind == kind }

// newline tells whether a line ended ahead of the current token.
func (p *parser) newline() bool { return p.rest[0].Newline }

// refuse refuses the current token.
func (p *parser) refuse() { refuse(p.pos()) }

// take goes on, if the current token has this sign.
func (p *parser) take(sign string) bool {
	if p.sign != sign {
		return false
	}
	p.next()
	return true
}

// expect goes on from this sign: it must come. It tells where it begins.
func (p *parser) expect(sign string) int {
	if p.sign != sign {
		p.refuse()
	}
	return p.next().Pos
}

// named goes on from a name that is not reserved: it must come.
func (p *parser) named() api.Token {
	if !p.is(api.TokenName) {
		p.refuse()
	}
	return p.next()
}

// ended tells whether a statement ends here, where the semicolon may have been left
// out.
func (p *parser) ended() bool {
	return p.sign == ";" || p.sign == "}" || p.is(api.TokenEnd) || p.newline()
}

// end goes on from the semicolon of a statement, if it was not left out.
func (p *parser) end() {
	if !p.ended() {
		p.refuse()
	}
	p.take(";")
}
