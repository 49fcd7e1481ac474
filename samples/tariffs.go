package samples

import (
	"strings"

	"billing/api"
	"billing/lexer"
)

// Tariff returns a tariff that can be written as text, whether it is valid or not.
func Tariff(choose func(n int) int) api.Tariff {
	t := api.Tariff{Name: Name(choose), From: choose(api.MaxDays) * api.Day, Split: choose(2) == 0}
	if choose(2) == 0 {
		t.From = choose(api.Forever)
	}
	for range choose(4) {
		t.Zones = append(t.Zones, zone(choose))
	}
	for range choose(4) {
		t.Bands = append(t.Bands, band(choose))
	}
	for range choose(4) {
		t.Rates = append(t.Rates, rate(choose))
	}
	for range choose(3) {
		t.Discounts = append(t.Discounts, api.Discount{Name: Name(choose), When: Expr(choose, 1+choose(4)), Points: longNumber(choose)})
	}
	return t
}

// zone returns a zone with prefixes of up to sixteen digits.
func zone(choose func(n int) int) api.Zone {
	z := api.Zone{Name: Name(choose)}
	for range 1 + choose(6) {
		prefix := make([]byte, 1+choose(16))
		for i := range prefix {
			prefix[i] = byte('0' + choose(10))
		}
		z.Prefixes = append(z.Prefixes, string(prefix))
	}
	return z
}

// band returns a band, which may have no slots.
func band(choose func(n int) int) api.Band {
	b := api.Band{Name: Name(choose)}
	for range choose(4) {
		ends := []int{1440, 0, choose(1441)}
		b.Slots = append(b.Slots, api.Slot{Days: 1 + choose(255), From: choose(1440), To: ends[choose(3)]})
	}
	return b
}

// rate returns a rate.
func rate(choose func(n int) int) api.Rate {
	r := api.Rate{Kind: api.KindVoice + choose(api.Kinds-api.KindVoice), Setup: longNumber(choose)}
	if choose(2) == 0 {
		r.Zone = Name(choose)
	}
	if choose(2) == 0 {
		r.Band = Name(choose)
	}
	for range 1 + choose(3) {
		r.Steps = append(r.Steps, api.Step{Upto: longNumber(choose), Quantum: longNumber(choose), Price: longNumber(choose)})
	}
	return r
}

// Expr returns an expression with at most so many levels that can be written as text, whether it is valid or not.
func Expr(choose func(n int) int, levels int) api.Expr {
	if levels == 1 || choose(6) == 0 {
		return leaf(choose)
	}
	e := api.Expr{Op: api.OpNot + choose(api.Ops-api.OpNot)}
	e.Args = append(e.Args, Expr(choose, levels-1))
	if e.Op != api.OpNot {
		e.Args = append(e.Args, Expr(choose, levels-1))
	}
	return e
}

// leaf returns an expression without operands.
func leaf(choose func(n int) int) api.Expr {
	switch choose(4) {
	case 0:
		return api.Expr{Op: api.OpNumber, Num: longNumber(choose)}
	case 1:
		b := make([]byte, choose(choose(api.MaxText+1)+1))
		for i := range b {
			b[i] = byte(' ' + choose(95))
		}
		return api.Expr{Op: api.OpText, Text: strings.ReplaceAll(string(b), `"`, "'")}
	case 2:
		return api.Expr{Op: api.OpName, Text: pick(choose, "kind", "units", "weekday", "minute", "total", "spent", "zone", "band", "family")}
	}
	return api.Expr{Op: api.OpName, Text: Name(choose)}
}

// Name returns a name that is no keyword.
func Name(choose func(n int) int) string {
	const letters = "abcdefghijklmnopqrstuvwxyz0123456789-"
	for {
		b := []byte{letters[choose(26)]}
		for range choose(choose(api.MaxName) + 1) {
			b = append(b, letters[choose(len(letters))])
		}
		if !lexer.Keyword(string(b)) {
			return string(b)
		}
	}
}

// longNumber returns a number of up to sixteen digits.
func longNumber(choose func(n int) int) int {
	most := 1
	for range choose(17) {
		most *= 10
	}
	some := []int{0, most - 1, choose(most)}
	return some[choose(3)]
}
