package parser

import (
	"slices"

	"billing/api"
	"billing/lexer"
)

// reader takes one token of a text after the other. A token that is not permitted at its place makes it panic with the fault of this token.
type reader struct {
	rest []api.Token // the tokens that were not taken yet; the end is never taken
}

// begin returns a reader of the tokens of a text.
func begin(s string) *reader {
	tokens, pos, err := lexer.Scan(s)
	if err != api.OK {
		panic(fault{pos, err})
	}
	return &reader{rest: tokens}
}

// end makes sure that all tokens but the end were taken.
func (r *reader) end() {
	if r.rest[0].Kind != api.TokenEnd {
		r.refuse()
	}
}

// refuse says that the next token is not permitted.
func (r *reader) refuse() {
	panic(fault{r.rest[0].Pos, api.ErrSyntax})
}

// take takes the next token, which must be a permitted one.
func (r *reader) take(permitted func(t api.Token) bool) api.Token {
	t := r.rest[0]
	if !permitted(t) {
		r.refuse()
	}
	r.rest = r.rest[1:]
	return t
}

// is reports whether the next token is the given word or symbol.
func (r *reader) is(text string) bool {
	t := r.rest[0]
	return (t.Kind == api.TokenWord || t.Kind == api.TokenSymbol) && t.Text == text
}

// skip takes the next token if it is the given word or symbol, and reports whether it was.
func (r *reader) skip(text string) bool {
	if !r.is(text) {
		return false
	}
	r.rest = r.rest[1:]
	return true
}

// want takes the next token, which must be the given word or symbol.
func (r *reader) want(text string) {
	if !r.skip(text) {
		r.refuse()
	}
}

// name takes a name.
func (r *reader) name() string {
	return r.take(isPlain).Text
}

// digits takes any number, and returns its digits.
func (r *reader) digits() string {
	return r.take(isNumber).Text
}

// number takes a number without leading zeros.
func (r *reader) number() int {
	return r.take(func(t api.Token) bool {
		return isNumber(t) && (t.Text == "0" || t.Text[0] != '0')
	}).Num
}

// fixed takes a number with so many digits that is not above a greatest one.
func (r *reader) fixed(width, greatest int) int {
	return r.take(func(t api.Token) bool {
		return isNumber(t) && len(t.Text) == width && t.Num <= greatest
	}).Num
}

// choice takes one of some words, not before a first one, and returns its position.
func (r *reader) choice(words []string, first int) int {
	t := r.take(func(t api.Token) bool {
		return t.Kind == api.TokenWord && slices.Contains(words[first:], t.Text)
	})
	return slices.Index(words, t.Text)
}

// statements takes what begins with a word and ends with a semicolon, as often as it follows.
func statements[T any](r *reader, word string, inside func() T) []T {
	var list []T
	for r.skip(word) {
		list = append(list, inside())
		r.want(";")
	}
	return list
}

// listed takes one element or more, with commas between them.
func listed[T any](r *reader, element func() T) []T {
	list := []T{element()}
	for r.skip(",") {
		list = append(list, element())
	}
	return list
}

// isPlain reports whether a token is a plain word.
func isPlain(t api.Token) bool {
	return t.Kind == api.TokenWord && !lexer.Keyword(t.Text)
}

// isNumber reports whether a token is a number.
func isNumber(t api.Token) bool {
	return t.Kind == api.TokenNumber
}
