package parser

import (
	"maps"
	"slices"
	"strconv"
	"strings"
	"time"

	"billing/api"
	"billing/lexer"
)

// grammarText is the grammar of the chapter. The days of a slot, which ascend, and the ranges of the parts of dates, clocks and times are written out; no day comes after holiday, but the symbol + itself may stand there.
const grammarText = `
tariff = "tariff" name "from" date [ clock ] [ "split" ] ";" { zone } { band } { rate } { discount }
zone = "zone" name digits { "," digits } ";"
band = "band" name ( slot { "," slot } | "otherwise" ) ";"
slot = monday time "-" until
monday = "mon" [ "+" tuesday ] | tuesday
tuesday = "tue" [ "+" wednesday ] | wednesday
wednesday = "wed" [ "+" thursday ] | thursday
thursday = "thu" [ "+" friday ] | friday
friday = "fri" [ "+" saturday ] | saturday
saturday = "sat" [ "+" sunday ] | sunday
sunday = "sun" [ "+" holiday ] | holiday
holiday = "holiday" [ "+" nothing ]
rate = "rate" kind "to" ( name | "any" ) "in" ( name | "any" ) [ "setup" number ] step { "," step } ";"
kind = "voice" | "text" | "data" | "content"
step = [ "upto" number ] "per" number "at" number
discount = "discount" name number "points" "when" expr ";"
date = four "-" two "-" two
clock = hour ":" sixty ":" sixty
time = hour ":" sixty
until = time | "24" ":" "00"
expr = both { "or" both }
both = negated { "and" negated }
negated = "not" negated | compared
compared = sum [ ( "=" | "<>" | "<" | "<=" | ">" | ">=" ) sum ]
sum = product { ( "+" | "-" ) product }
product = primary { ( "*" | "/" | "%" ) primary }
primary = number | text | attribute | "(" expr ")"
attribute = "kind" | "units" | "weekday" | "minute" | "total" | "spent" | "zone" | "band" | "family" | name
whole-tariff = tariff end
whole-expr = expr end
`

// matcher returns the places behind what stands at a place of the tokens.
type matcher func(at int) []int

// oracle finds out by trying all ways of the grammar which tokens are permitted.
type oracle struct {
	tokens []api.Token
	last   int // the last place at which some way asked for a token
	rules  map[string]matcher
}

// terminal returns the matcher of one token.
func (o *oracle) terminal(permitted func(t api.Token) bool) matcher {
	return func(at int) []int {
		o.last = max(o.last, at)
		if at < len(o.tokens) && permitted(o.tokens[at]) {
			return []int{at + 1}
		}
		return nil
	}
}

// grammar is the oracle of all tests.
var grammar = newOracle()

// newOracle returns an oracle that knows the grammar, but no tokens.
func newOracle() *oracle {
	o := &oracle{rules: map[string]matcher{}}
	number := func(t api.Token) bool { return t.Kind == api.TokenNumber }
	below := func(most int) matcher {
		return o.terminal(func(t api.Token) bool { return number(t) && len(t.Text) == 2 && t.Text < strconv.Itoa(most) })
	}
	o.rules["name"] = o.terminal(func(t api.Token) bool { return t.Kind == api.TokenWord && !lexer.Keyword(t.Text) })
	o.rules["digits"] = o.terminal(number)
	o.rules["number"] = o.terminal(func(t api.Token) bool { return number(t) && t.Text == strconv.Itoa(t.Num) })
	o.rules["text"] = o.terminal(func(t api.Token) bool { return t.Kind == api.TokenText })
	o.rules["nothing"] = o.terminal(func(t api.Token) bool { return false })
	o.rules["end"] = o.terminal(func(t api.Token) bool { return t.Kind == api.TokenEnd })
	o.rules["four"] = o.terminal(func(t api.Token) bool { return number(t) && len(t.Text) == 4 })
	o.rules["two"] = o.terminal(func(t api.Token) bool { return number(t) && len(t.Text) == 2 })
	o.rules["hour"], o.rules["sixty"] = below(24), below(60)
	for line := range strings.Lines(strings.TrimSpace(grammarText)) {
		words := strings.Fields(line)
		o.rules[words[0]], _ = o.choice(words[2:])
	}
	return o
}

// choice reads a choice up to a closing bracket, and returns its matcher and the words behind it.
func (o *oracle) choice(words []string) (matcher, []string) {
	var ways []matcher
	for {
		var way matcher
		way, words = o.sequence(words)
		ways = append(ways, way)
		if len(words) == 0 || words[0] != "|" {
			return func(at int) []int {
				var all []int
				for _, w := range ways {
					all = append(all, w(at)...)
				}
				return all
			}, words
		}
		words = words[1:]
	}
}

// sequence reads parts that follow each other.
func (o *oracle) sequence(words []string) (matcher, []string) {
	var parts []matcher
	for len(words) > 0 && !strings.Contains("| ) ] }", words[0]) {
		var part matcher
		part, words = o.part(words)
		parts = append(parts, part)
	}
	return func(at int) []int {
		places := map[int]bool{at: true}
		for _, p := range parts {
			places = behind(p, places)
		}
		return slices.Collect(maps.Keys(places))
	}, words
}

// part reads a word in quotes, the name of a rule, or something in brackets.
func (o *oracle) part(words []string) (matcher, []string) {
	first, rest := words[0], words[1:]
	if literal, ok := strings.CutPrefix(first, `"`); ok {
		literal = strings.TrimSuffix(literal, `"`)
		return o.terminal(func(t api.Token) bool {
			return t.Kind != api.TokenText && t.Kind != api.TokenEnd && t.Text == literal
		}), rest
	}
	if !strings.Contains("( [ {", first) {
		return func(at int) []int { return o.rules[first](at) }, rest
	}
	inside, rest := o.choice(rest)
	switch first {
	case "[":
		return func(at int) []int { return append(inside(at), at) }, rest[1:]
	case "{":
		return func(at int) []int { return repeated(inside, at) }, rest[1:]
	}
	return inside, rest[1:]
}

// behind returns the places behind a part that stands at one of some places.
func behind(p matcher, places map[int]bool) map[int]bool {
	next := map[int]bool{}
	for at := range places {
		for _, n := range p(at) {
			next[n] = true
		}
	}
	return next
}

// repeated returns the places behind a part that occurs as often as it may.
func repeated(p matcher, at int) []int {
	all := map[int]bool{}
	for places := map[int]bool{at: true}; len(places) > 0; places = behind(p, places) {
		maps.Copy(all, places)
	}
	return slices.Collect(maps.Keys(all))
}

// modelError returns the place and the error that a parser should return for a text of a rule.
func modelError(s, rule string) (int, api.Errno) {
	tokens, pos, err := lexer.Scan(s)
	if err != api.OK {
		return pos, err
	}
	grammar.tokens, grammar.last = tokens, 0
	matched := len(grammar.rules["whole-"+rule](0)) > 0
	if rule == "tariff" && grammar.last > 7 && !dated(tokens[3:8]) { // the date is the tokens 3 to 7
		return tokens[3].Pos, api.ErrTime
	}
	if !matched {
		return tokens[grammar.last].Pos, api.ErrSyntax
	}
	return 0, api.OK
}

// dated reports whether the tokens of a date denote one from 2000 to 2399.
func dated(tokens []api.Token) bool {
	var s string
	for _, t := range tokens {
		s += t.Text
	}
	d, err := time.Parse(time.DateOnly, s)
	return err == nil && 2000 <= d.Year() && d.Year() <= 2399
}
