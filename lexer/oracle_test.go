package lexer_test

import (
	"regexp"
	"slices"
	"strconv"
	"strings"
	"testing"
	"unicode/utf8"

	"quill/api"
	"quill/lexer"
	"quill/numtext"
	"quill/ustr"
)

// The chapter's words a second time, by regular expressions. They take runes: a
// unit is the rune of its number, one D800 to DFFF the one 10000 above.

const (
	whites  = `\t\v\f \x{A0}\x{1680}\x{180E}\x{2000}-\x{200A}\x{202F}\x{205F}\x{3000}\x{FEFF}`
	ends    = `\n\r\x{2028}\x{2029}`
	four    = `u[0-9A-Fa-f]{4}`
	first   = `[^\x00-#%-@\[-^` + "`" + `{-\x7F` + whites + ends + `]`
	further = `[^\x00-#%-/:-@\[-^` + "`" + `{-\x7F` + whites + ends + `]`
)

// oracle is the chapter's words.
type oracle struct {
	gap, line, name, begins, stands, digit, piece *regexp.Regexp
	strings                                       [2]*regexp.Regexp
}

func newOracle() *oracle {
	within := func(quote string) *regexp.Regexp {
		return regexp.MustCompile(`^` + quote + `(?:[^\\` + quote + ends + `]|\\(?:\r\n|x[0-9A-Fa-f]{2}|` + four + `|0|[^0-9xu]))*` + quote)
	}
	return &oracle{
		gap:     regexp.MustCompile(`^(?:[` + whites + ends + `]|//[^` + ends + `]*|/\*(?s:.*?)\*/)*`),
		line:    regexp.MustCompile(`[` + ends + `]`),
		name:    regexp.MustCompile(`^(?:` + first + `|\\` + four + `)(?:` + further + `|\\` + four + `)*`),
		begins:  regexp.MustCompile(`^` + first),
		stands:  regexp.MustCompile(`^` + further),
		digit:   regexp.MustCompile(`^\.?[0-9]`),
		piece:   regexp.MustCompile(`\\(?:\r\n|x[0-9A-Fa-f]{2}|` + four + `|(?s:.))|(?s:.)`),
		strings: [2]*regexp.Regexp{within(`'`), within(`"`)},
	}
}

// runes is a text with a rune for each unit.
func runes(s string) string {
	var b strings.Builder
	for _, u := range ustr.Units(s) {
		r := rune(u)
		if 0xD800 <= r && r <= 0xDFFF {
			r += 0x10000
		}
		b.WriteRune(r)
	}
	return b.String()
}

// units is the text of such runes.
func units(s string) string {
	var l []uint16
	for _, r := range s {
		l = append(l, uint16(r))
	}
	return ustr.Make(l)
}

// next is what Lx1 promises of the text from a place on.
func (o *oracle) next(src string, at int, operand bool) (api.Token, int, api.Errno) {
	if at < 0 || at > ustr.Len(src) {
		return api.Token{}, 0, api.ErrArg
	}
	s := runes(ustr.Slice(src, at, ustr.Len(src)))
	gap := o.gap.FindString(s)
	s = s[len(gap):]
	place := at + utf8.RuneCountInString(gap)
	x, length, ok := o.token(s)
	if strings.HasPrefix(s, "/*") || operand && strings.HasPrefix(s, "/") || !ok {
		return api.Token{}, place, api.ErrSyntax
	}
	x.Pos, x.End = place, place+length
	x.Newline = o.line.MatchString(gap)
	return x, 0, api.OK
}

// token is the token at the beginning of s, but for places, and how many units
// it has.
func (o *oracle) token(s string) (api.Token, int, bool) {
	switch {
	case s == "":
		return api.Token{Kind: api.TokenEnd}, 0, true
	case o.begins.MatchString(s) || s[0] == '\\':
		return o.readName(s)
	case s[0] == '\'':
		return o.readString(o.strings[0].FindString(s))
	case s[0] == '"':
		return o.readString(o.strings[1].FindString(s))
	case o.digit.MatchString(s):
		return o.readNumber(s)
	}
	longest := ""
	for _, m := range allMarks() {
		if strings.HasPrefix(s, m) && len(m) > len(longest) {
			longest = m
		}
	}
	return api.Token{Kind: api.TokenMark, Text: units(longest)}, len(longest), longest != ""
}

// said is what an escape of digits says, or what a piece without one is.
func said(piece string, count int) string {
	if !strings.HasPrefix(piece, `\u`) && !strings.HasPrefix(piece, `\x`) || len(piece) != count+2 {
		return piece
	}
	n, _ := strconv.ParseUint(piece[2:], 16, 16)
	return runes(unit(uint16(n)))
}

func (o *oracle) readName(s string) (api.Token, int, bool) {
	written := o.name.FindString(s)
	if written == "" || strings.HasPrefix(s[len(written):], `\`) {
		return api.Token{}, 0, false
	}
	name := ""
	for i, piece := range o.piece.FindAllString(written, -1) {
		u := said(piece, 4)
		if i == 0 && !o.begins.MatchString(u) || !o.stands.MatchString(u) {
			return api.Token{}, 0, false
		}
		name += u
	}
	x := api.Token{Kind: api.TokenName, Text: units(name), Escaped: name != written}
	if slices.Contains(allWords(), name) {
		x.Kind = api.TokenWord
	}
	return x, utf8.RuneCountInString(written), true
}

func (o *oracle) readString(written string) (api.Token, int, bool) {
	if written == "" {
		return api.Token{}, 0, false
	}
	controls := map[string]string{`\b`: "\b", `\t`: "\t", `\n`: "\n", `\v`: "\v", `\f`: "\f", `\r`: "\r", `\0`: "\x00", "\\\n": "", "\\\r": "", "\\\r\n": "", "\\\u2028": "", "\\\u2029": ""}
	var value strings.Builder
	nought := false
	for _, piece := range o.piece.FindAllString(written[1:len(written)-1], -1) {
		if nought && '0' <= piece[0] && piece[0] <= '9' {
			return api.Token{}, 0, false
		}
		nought = piece == `\0`
		control, ok := controls[piece]
		switch {
		case ok:
			piece = control
		case strings.HasPrefix(piece, `\u`):
			piece = said(piece, 4)
		case strings.HasPrefix(piece, `\x`):
			piece = said(piece, 2)
		default:
			piece = strings.TrimPrefix(piece, `\`)
			if piece == "" {
				piece = `\`
			}
		}
		value.WriteString(piece)
	}
	return api.Token{Kind: api.TokenString, Text: units(value.String())}, utf8.RuneCountInString(written), true
}

// readNumber asks layer 3 for each beginning of s, as the words have it.
func (o *oracle) readNumber(s string) (api.Token, int, bool) {
	x := api.Token{Kind: api.TokenNumber}
	longest := 0
	for i := range s {
		if n, ok := numtext.Literal(ustr.Wide(s[:i])); ok {
			x.Num, longest = n, i
		}
	}
	if n, ok := numtext.Literal(ustr.Wide(s)); ok {
		x.Num, longest = n, len(s)
	}
	rest := s[longest:]
	if o.stands.MatchString(rest) || strings.HasPrefix(rest, `\`) {
		return api.Token{}, 0, false
	}
	return x, longest, true
}

// all is what Lx2 promises.
func (o *oracle) all(src string) ([]api.Token, int, api.Errno) {
	var l []api.Token
	for at := 0; ; {
		x, place, errno := o.next(src, at, false)
		if errno != api.OK {
			return nil, place, errno
		}
		l = append(l, x)
		if x.Kind == api.TokenEnd {
			return l, 0, api.OK
		}
		at = x.End
	}
}

func (o *oracle) check(t *testing.T, src string, at int, operand bool) {
	t.Helper()
	want, wantPlace, wantErrno := o.next(src, at, operand)
	if wantErrno != api.OK {
		refuses(t, src, at, operand, wantPlace, wantErrno)
	} else {
		holds(t, src, at, operand, want)
	}
}

func (o *oracle) checkAll(t *testing.T, src string) {
	t.Helper()
	want, wantPlace, wantErrno := o.all(src)
	l, place, errno := lexer.All(src)
	if !sameAll(l, want) || place != wantPlace || errno != wantErrno {
		t.Errorf("All(%q): %+v, %d, %d; want %+v, %d, %d", seen(src), l, place, errno, want, wantPlace, wantErrno)
	}
}

// All texts of some pieces, none longer than so many.
func TestLx1AllShort(t *testing.T) {
	o := newOracle()
	for _, row := range []struct {
		most   int
		pieces []string
	}{
		{6, []string{"0", "1", ".", "e", "x", "+"}},
		{5, []string{"0", "9", ".", "E", "X", "-", "f", "g", " "}},
		{4, []string{"'", `"`, `\`, "\n", "\r", "0", "8", "x", "u", "00", "a", "/"}},
		{5, []string{"'", `\`, "\n", "\r", "0", "7", "b"}},
		{6, []string{"/", "*", "\n", "a", " ", "="}},
		{5, []string{"=", ">", "<", "!", "&", "|", "+", "-"}},
		{4, []string{`\u0061`, `\u0030`, `\u0020`, `\u`, `\`, "i", "f", "0", " ", `\u0066`, "$"}},
		{3, []string{`\u`, "0", "00", "6", "0061", "f", "G", "a", "{", "}", "D800", "\\", "U"}},
	} {
		level := []string{""}
		for range row.most {
			var longer []string
			for _, s := range level {
				for _, piece := range row.pieces {
					longer = append(longer, s+piece)
				}
			}
			for _, s := range longer {
				o.check(t, ustr.Wide(s), 0, len(s)%2 == 0)
			}
			level = longer
		}
	}
}

// draws is a row of numbers that is the same each time.
func draws() func() int {
	n := uint64(20)
	return func() int {
		n = n*6364136223846793005 + 1442695040888963407
		return int(n >> 33)
	}
}

// pieces are parts of sources, of all kinds, right ones and wrong ones.
func pieces() []string {
	l := []string{" ", "  ", "\t", "\n", "\r\n", "\u2028", "\u00a0", "/**/", "/*\n*/", "// x\n", "a", "b1", "é", "😀", "$_", "0", "1", "12", "1.5", ".5", "0x1F", "1e3", "''", `"a"`, `'\n'`, `"\x41\u0042"`, "'\\\n'", `\u0061`, `\u0069f`}
	return slices.Concat(l, allMarks(), allWords())
}

func wrongPieces() []string {
	return []string{"'", `"`, `\`, `\u`, `\u00`, "/*", "*/", "#", "@", "010", "0x", "1e", `'\1'`, `\u0020`, "\x00", "\x7f"}
}

// drawn is a source of so many parts.
func drawn(t *testing.T, draw func() int, parts []string, count int) string {
	t.Helper()
	var b strings.Builder
	for range count {
		b.WriteString(parts[draw()%len(parts)])
	}
	return text(t, b.String())
}

func TestLx1Drawn(t *testing.T) {
	o, draw := newOracle(), draws()
	right, all := pieces(), slices.Concat(pieces(), wrongPieces())
	lones := []string{unit(0xD800), unit(0xDC00), unit(0xFFFF), unit(0xFEFF), unit(0x180E), unit(0x85)}
	for i := range 1500 {
		src := drawn(t, draw, right, draw()%9+1)
		if i%3 == 0 {
			src = drawn(t, draw, all, draw()%9+1)
		}
		if i%5 == 0 {
			src = ustr.Slice(src, 0, 3) + lones[draw()%len(lones)] + ustr.Slice(src, 3, ustr.Len(src))
		}
		for at := -1; at <= ustr.Len(src)+1; at++ {
			o.check(t, src, at, i%2 == 0)
		}
	}
}

func TestLx2Drawn(t *testing.T) {
	o, draw := newOracle(), draws()
	right, all := pieces(), slices.Concat(pieces(), wrongPieces())
	read := 0
	for i := range 3000 {
		src := drawn(t, draw, right, draw()%20)
		if i%4 == 0 {
			src = drawn(t, draw, all, draw()%20)
		}
		o.checkAll(t, src)
		if _, _, errno := lexer.All(src); errno == api.OK {
			read++
		}
	}
	if read < 1000 || read > 2900 {
		t.Errorf("%d sources of 3000 could be read: too few of one kind", read)
	}
}
