package printer

import (
	"fmt"
	"strings"
	"time"

	"billing/api"
)

// modelExpr returns the text of a printable expression and how strongly its operator binds, as the chapter defines it.
func modelExpr(e api.Expr) (string, int) {
	operand := func(i, required int) string {
		s, binds := modelExpr(e.Args[i])
		if binds < required {
			return "(" + s + ")"
		}
		return s
	}
	switch e.Op {
	case api.OpNumber:
		return fmt.Sprint(e.Num), 7
	case api.OpText:
		return `"` + e.Text + `"`, 7
	case api.OpName:
		return e.Text, 7
	case api.OpOr:
		return operand(0, 1) + " or " + operand(1, 2), 1
	case api.OpAnd:
		return operand(0, 2) + " and " + operand(1, 3), 2
	case api.OpNot:
		return "not " + operand(0, 3), 3
	case api.OpEqual, api.OpUnequal, api.OpLess, api.OpAtMost:
		symbol := map[int]string{api.OpEqual: "=", api.OpUnequal: "<>", api.OpLess: "<", api.OpAtMost: "<="}[e.Op]
		return operand(0, 5) + " " + symbol + " " + operand(1, 5), 4
	case api.OpAdd:
		return operand(0, 5) + " + " + operand(1, 6), 5
	case api.OpSub:
		return operand(0, 5) + " - " + operand(1, 6), 5
	}
	symbol := map[int]string{api.OpMul: "*", api.OpDiv: "/", api.OpMod: "%"}[e.Op]
	return operand(0, 6) + " " + symbol + " " + operand(1, 7), 6
}

// modelTariff returns the text of a printable tariff.
func modelTariff(t api.Tariff) string {
	var s strings.Builder
	begin := time.Date(2000, 1, 1+t.From/86400, 0, 0, t.From%86400, 0, time.UTC)
	layout := "2006-01-02 15:04:05"
	if t.From%86400 == 0 {
		layout = "2006-01-02"
	}
	fmt.Fprintf(&s, "tariff %s from %s%s ;\n", t.Name, begin.Format(layout), map[bool]string{true: " split"}[t.Split])
	for _, z := range t.Zones {
		fmt.Fprintf(&s, "zone %s %s ;\n", z.Name, strings.Join(z.Prefixes, ", "))
	}
	for _, b := range t.Bands {
		slots := []string{}
		for _, x := range b.Slots {
			slots = append(slots, modelSlot(x))
		}
		if len(slots) == 0 {
			slots = []string{"otherwise"}
		}
		fmt.Fprintf(&s, "band %s %s ;\n", b.Name, strings.Join(slots, ", "))
	}
	for _, r := range t.Rates {
		steps := []string{}
		for _, x := range r.Steps {
			steps = append(steps, fmt.Sprintf("%sper %d at %d", modelOptional("upto", x.Upto), x.Quantum, x.Price))
		}
		kind := []string{"", "voice", "text", "data", "content"}[r.Kind]
		fmt.Fprintf(&s, "rate %s to %s in %s %s%s ;\n", kind, modelName(r.Zone), modelName(r.Band), modelOptional("setup", r.Setup), strings.Join(steps, ", "))
	}
	for _, d := range t.Discounts {
		when, _ := modelExpr(d.When)
		fmt.Fprintf(&s, "discount %s %d points when %s ;\n", d.Name, d.Points, when)
	}
	return s.String()
}

// modelSlot returns the text of a slot.
func modelSlot(s api.Slot) string {
	days := ""
	for i, day := range strings.Fields("mon tue wed thu fri sat sun holiday") {
		if s.Days>>i%2 == 1 {
			days += "+" + day
		}
	}
	return fmt.Sprintf("%s %02d:%02d-%02d:%02d", days[1:], s.From/60, s.From%60, s.To/60, s.To%60)
}

// modelOptional returns a word and a number with a space behind each, or nothing for 0.
func modelOptional(word string, n int) string {
	if n == 0 {
		return ""
	}
	return fmt.Sprintf("%s %d ", word, n)
}

// modelName returns the text of a name that may be empty.
func modelName(s string) string {
	if s == "" {
		return "any"
	}
	return s
}
