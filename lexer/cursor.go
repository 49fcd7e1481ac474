package lexer

import (
	"strconv"
	"strings"

	"billing/api"
)

const (
	maxDigits = 16              // digits of a number
	singles   = ";,+-:()=<>*/%" // the symbols of one byte
)

// cursor stands before the byte of a text that is read next.
type cursor struct {
	text string
	pos  int
}

// scan returns the tokens of a text, or panics with the fault of the first one that has an error.
func scan(s string) []api.Token {
	if len(s) > api.MaxSourceText {
		panic(fault{0, api.ErrTooLong})
	}
	c := cursor{text: s}
	var tokens []api.Token
	for {
		t := c.token()
		tokens = append(tokens, t)
		if t.Kind == api.TokenEnd {
			return tokens
		}
	}
}

// token reads the next token.
func (c *cursor) token() api.Token {
	c.skipBlanks()
	t := api.Token{Pos: c.pos}
	if c.pos == len(c.text) {
		return t
	}
	switch first := c.peek(); {
	case isLetter(first):
		t.Kind, t.Text = api.TokenWord, c.word()
	case isDigit(first):
		t.Kind, t.Text = api.TokenNumber, c.number()
		t.Num, _ = strconv.Atoi(t.Text) // sixteen digits cannot overflow
	case first == '"':
		t.Kind, t.Text = api.TokenText, c.quoted()
	default:
		t.Kind, t.Text = api.TokenSymbol, c.symbol()
	}
	return t
}

// skipBlanks passes over blanks, comments included.
func (c *cursor) skipBlanks() {
	c.run(isBlank)
	for c.peek() == '#' {
		c.run(isComment)
		c.run(isBlank)
	}
}

// word reads a word.
func (c *cursor) word() string {
	start := c.pos
	word := c.run(isWord)
	if len(word) > api.MaxName {
		panic(fault{start, api.ErrTooLong})
	}
	return word
}

// number reads the digits of a number.
func (c *cursor) number() string {
	start := c.pos
	digits := c.run(isDigit)
	if len(digits) > maxDigits {
		panic(fault{start, api.ErrTooLong})
	}
	if isLetter(c.peek()) {
		panic(fault{start, api.ErrSyntax})
	}
	return digits
}

// quoted reads a text, and returns what stands between its double quotes.
func (c *cursor) quoted() string {
	start := c.pos
	c.pos++
	text := c.run(isQuotable)
	if c.peek() != '"' {
		panic(fault{start, api.ErrSyntax})
	}
	if len(text) > api.MaxText {
		panic(fault{start, api.ErrTooLong})
	}
	c.pos++
	return text
}

// symbol reads a symbol.
func (c *cursor) symbol() string {
	size := 1
	rest := c.text[c.pos:]
	switch {
	case strings.HasPrefix(rest, "<>"), strings.HasPrefix(rest, "<="), strings.HasPrefix(rest, ">="):
		size = 2
	case strings.IndexByte(singles, rest[0]) < 0:
		panic(fault{c.pos, api.ErrSyntax})
	}
	c.pos += size
	return rest[:size]
}

// peek returns the byte that is read next, or 0 at the end: no token and no blank begins or goes on with a 0.
func (c *cursor) peek() byte {
	if c.pos == len(c.text) {
		return 0
	}
	return c.text[c.pos]
}

// run reads all bytes up to the first one that is not inside, and returns them.
func (c *cursor) run(inside func(b byte) bool) string {
	start := c.pos
	for c.pos < len(c.text) && inside(c.text[c.pos]) {
		c.pos++
	}
	return c.text[start:c.pos]
}

// isBlank reports whether b is a blank.
func isBlank(b byte) bool {
	return b == ' ' || b == '\t' || b == '\n'
}

// isComment reports whether a comment goes on with b.
func isComment(b byte) bool {
	return b != '\n'
}

// isLetter reports whether b is a lower-case letter.
func isLetter(b byte) bool {
	return 'a' <= b && b <= 'z'
}

// isDigit reports whether b is a digit.
func isDigit(b byte) bool {
	return '0' <= b && b <= '9'
}

// isWord reports whether a word goes on with b.
func isWord(b byte) bool {
	return isLetter(b) || isDigit(b) || b == '-'
}

// isQuotable reports whether a text may contain b.
func isQuotable(b byte) bool {
	return ' ' <= b && b <= '~' && b != '"'
}
