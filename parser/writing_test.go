package parser

import (
	"fmt"
	"math/rand"
	"strconv"
	"strings"
	"time"

	"billing/api"
)

// writer writes tariffs and expressions as tokens. If it has a random source, it varies what may be written in several ways.
type writer struct {
	rnd    *rand.Rand
	tokens []string
}

// put writes the words of a text as tokens.
func (w *writer) put(words string) {
	w.tokens = append(w.tokens, strings.Fields(words)...)
}

// perhaps chooses one of two ways of writing, the second one only now and then.
func (w *writer) perhaps() bool {
	return w.rnd != nil && w.rnd.Intn(4) == 0
}

// number writes a number.
func (w *writer) number(n int) {
	w.put(strconv.Itoa(n))
}

// nameOrAny writes a name, or any.
func (w *writer) nameOrAny(name string) {
	if name == "" {
		name = "any"
	}
	w.put(name)
}

// optional writes a number that is not 0, behind a word.
func (w *writer) optional(word string, n int) {
	if n != 0 || w.perhaps() {
		w.put(word)
		w.number(n)
	}
}

// comma writes a comma before all elements of a list but the first one.
func (w *writer) comma(i int) {
	if i > 0 {
		w.put(",")
	}
}

// tariff writes a tariff.
func (w *writer) tariff(t api.Tariff) {
	begin := time.Date(2000, 1, 1, 0, 0, 0, 0, time.UTC).Add(time.Duration(t.From%api.Day)*time.Second).AddDate(0, 0, t.From/api.Day)
	w.put("tariff " + t.Name + " from " + begin.Format("2006 - 01 - 02"))
	if t.From%api.Day != 0 || w.perhaps() {
		w.put(begin.Format("15 : 04 : 05"))
	}
	if t.Split {
		w.put("split")
	}
	w.put(";")
	for _, z := range t.Zones {
		w.put("zone " + z.Name + " " + strings.Join(z.Prefixes, " , ") + " ;")
	}
	for _, b := range t.Bands {
		w.band(b)
	}
	for _, r := range t.Rates {
		w.rate(r)
	}
	for _, d := range t.Discounts {
		w.put("discount " + d.Name)
		w.number(d.Points)
		w.put("points when")
		w.expr(d.When, 1)
		w.put(";")
	}
}

// band writes a band.
func (w *writer) band(b api.Band) {
	w.put("band " + b.Name)
	if len(b.Slots) == 0 {
		w.put("otherwise")
	}
	for i, s := range b.Slots {
		w.comma(i)
		var days []string
		for bit, day := range strings.Fields("mon tue wed thu fri sat sun holiday") {
			if s.Days>>bit&1 == 1 {
				days = append(days, day)
			}
		}
		w.put(strings.Join(days, " + "))
		w.put(fmt.Sprintf("%02d : %02d - %02d : %02d", s.From/60, s.From%60, s.To/60, s.To%60))
	}
	w.put(";")
}

// rate writes a rate.
func (w *writer) rate(r api.Rate) {
	w.put("rate " + []string{"voice", "text", "data", "content"}[r.Kind-1] + " to")
	w.nameOrAny(r.Zone)
	w.put("in")
	w.nameOrAny(r.Band)
	w.optional("setup", r.Setup)
	for i, s := range r.Steps {
		w.comma(i)
		w.optional("upto", s.Upto)
		w.put("per")
		w.number(s.Quantum)
		w.put("at")
		w.number(s.Price)
	}
	w.put(";")
}

// binding says how an operator is written, how strongly it binds, and how strongly its operands must bind.
type binding struct {
	symbol            string
	own, left, right  int
	exchanged, prefix bool
}

// bindings returns how an operator can be written.
func bindings(op int) []binding {
	return map[int][]binding{
		api.OpNot:     {{symbol: "not", own: 3, right: 3, prefix: true}},
		api.OpAnd:     {{symbol: "and", own: 2, left: 2, right: 3}},
		api.OpOr:      {{symbol: "or", own: 1, left: 1, right: 2}},
		api.OpEqual:   {{symbol: "=", own: 4, left: 5, right: 5}},
		api.OpUnequal: {{symbol: "<>", own: 4, left: 5, right: 5}},
		api.OpLess:    {{symbol: "<", own: 4, left: 5, right: 5}, {symbol: ">", own: 4, left: 5, right: 5, exchanged: true}},
		api.OpAtMost:  {{symbol: "<=", own: 4, left: 5, right: 5}, {symbol: ">=", own: 4, left: 5, right: 5, exchanged: true}},
		api.OpAdd:     {{symbol: "+", own: 5, left: 5, right: 6}},
		api.OpSub:     {{symbol: "-", own: 5, left: 5, right: 6}},
		api.OpMul:     {{symbol: "*", own: 6, left: 6, right: 7}},
		api.OpDiv:     {{symbol: "/", own: 6, left: 6, right: 7}},
		api.OpMod:     {{symbol: "%", own: 6, left: 6, right: 7}},
	}[op]
}

// expr writes an expression where it must bind as strongly as required.
func (w *writer) expr(e api.Expr, required int) {
	switch e.Op {
	case api.OpNumber, api.OpText, api.OpName:
		w.leaf(e)
		return
	}
	ways := bindings(e.Op)
	b := ways[0]
	if w.perhaps() {
		b = ways[len(ways)-1]
	}
	if b.own < required || w.perhaps() {
		w.tokens = append(w.tokens, "(")
		defer func() { w.tokens = append(w.tokens, ")") }()
	}
	operands := e.Args
	if b.exchanged {
		operands = []api.Expr{e.Args[1], e.Args[0]}
	}
	if !b.prefix {
		w.expr(operands[0], b.left)
	}
	w.put(b.symbol)
	w.expr(operands[len(operands)-1], b.right)
}

// leaf writes a number, a text or an attribute, now and then in parentheses.
func (w *writer) leaf(e api.Expr) {
	word := map[int]string{api.OpNumber: strconv.Itoa(e.Num), api.OpText: `"` + e.Text + `"`, api.OpName: e.Text}[e.Op]
	count := 0
	for w.perhaps() {
		count++
	}
	w.put(strings.Repeat("( ", count))
	w.tokens = append(w.tokens, word)
	w.put(strings.Repeat(" )", count))
}

// plain returns the tokens with a space between each two.
func (w *writer) plain() string {
	return strings.Join(w.tokens, " ")
}

// varied returns the tokens with random blanks around them, also none between tokens that stay apart without.
func (w *writer) varied() string {
	blanks := []string{" ", "\n", "\t", "  ", "# a \" ; \xff\n", " #\n\t", "\n\n"}
	var s strings.Builder
	for _, x := range w.tokens {
		if w.rnd.Intn(3) > 0 || touches(s.String(), x) {
			s.WriteString(blanks[w.rnd.Intn(len(blanks))])
		}
		s.WriteString(x)
	}
	if w.rnd.Intn(2) == 0 {
		s.WriteString(blanks[w.rnd.Intn(len(blanks))] + "# the end")
	}
	return s.String()
}

// touches reports whether a token behind a text would not stay apart from the last one.
func touches(s, token string) bool {
	if s == "" {
		return false
	}
	isWord := func(c rune) bool { return 'a' <= c && c <= 'z' || '0' <= c && c <= '9' || c == '-' }
	isLetter := func(c rune) bool { return 'a' <= c && c <= 'z' }
	last, first := s[len(s)-1], token[0]
	run := s[len(strings.TrimRightFunc(s[max(0, len(s)-50):], isWord))+max(0, len(s)-50):]
	if strings.ContainsFunc(run, isLetter) {
		return isWord(rune(first))
	}
	if run != "" && last != '-' {
		return first != '-' && isWord(rune(first))
	}
	return strings.IndexByte("<>=", last) >= 0 && strings.IndexByte("<>=", first) >= 0
}
