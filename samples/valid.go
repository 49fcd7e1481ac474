package samples

import (
	"strconv"

	"billing/api"
)

// ValidTariff returns a valid tariff.
func ValidTariff(choose func(n int) int) api.Tariff {
	t := api.Tariff{Name: Name(choose), From: choose(api.Forever), Split: choose(2) == 0}
	for i := range choose(4) {
		z := api.Zone{Name: unique(choose, i)}
		for j := range 1 + choose(3) {
			z.Prefixes = append(z.Prefixes, strconv.Itoa(i)+strconv.Itoa(j)+strconv.Itoa(choose(1000)))
		}
		t.Zones = append(t.Zones, z)
	}
	for i := range choose(4) {
		b := api.Band{Name: unique(choose, i)}
		for range 1 + choose(3) {
			from := choose(1440)
			b.Slots = append(b.Slots, api.Slot{Days: 1 + choose(255), From: from, To: from + 1 + choose(1440-from)})
		}
		t.Bands = append(t.Bands, b)
	}
	t.Bands = append(t.Bands, api.Band{Name: unique(choose, len(t.Bands))})
	for range choose(6) {
		t.Rates = append(t.Rates, validRate(choose, t))
	}
	for i := range choose(3) {
		t.Discounts = append(t.Discounts, api.Discount{Name: unique(choose, i), When: ValidExpr(choose, api.SortTruth, 1+choose(4)), Points: choose(10001)})
	}
	return t
}

// validRate returns a valid rate of a tariff.
func validRate(choose func(n int) int, t api.Tariff) api.Rate {
	r := api.Rate{Kind: api.KindVoice + choose(api.Kinds-api.KindVoice), Setup: choose(choose(api.MaxAmount+1) + 1), Steps: ValidSteps(choose)}
	if len(t.Zones) > 0 && choose(2) == 0 {
		r.Zone = t.Zones[choose(len(t.Zones))].Name
	}
	if choose(2) == 0 {
		r.Band = t.Bands[choose(len(t.Bands))].Name
	}
	return r
}

// ValidSteps returns a valid price ladder with small numbers.
func ValidSteps(choose func(n int) int) []api.Step {
	var steps []api.Step
	upto := 0
	for range choose(4) {
		upto += 1 + choose(100)
		steps = append(steps, api.Step{Upto: upto, Quantum: 1 + choose(60), Price: choose(1000)})
	}
	return append(steps, api.Step{Quantum: 1 + choose(60), Price: choose(1000)})
}

// ValidExpr returns a valid expression of a sort with at most so many levels.
func ValidExpr(choose func(n int) int, sort, levels int) api.Expr {
	switch {
	case levels == 1 || sort == api.SortText || choose(6) == 0:
		return validLeaf(choose, sort)
	case sort == api.SortNumber:
		return validOperation(choose, api.OpAdd+choose(api.Ops-api.OpAdd), api.SortNumber, levels)
	}
	op := api.OpNot + choose(api.OpAdd-api.OpNot)
	switch op {
	case api.OpNot:
		return api.Expr{Op: op, Args: []api.Expr{ValidExpr(choose, api.SortTruth, levels-1)}}
	case api.OpAnd, api.OpOr:
		return validOperation(choose, op, api.SortTruth, levels)
	case api.OpLess, api.OpAtMost:
		return validOperation(choose, op, api.SortNumber, levels)
	}
	return validOperation(choose, op, api.SortNumber+choose(2), levels)
}

// validOperation returns an operation with two operands of a sort.
func validOperation(choose func(n int) int, op, sort, levels int) api.Expr {
	return api.Expr{Op: op, Args: []api.Expr{ValidExpr(choose, sort, levels-1), ValidExpr(choose, sort, levels-1)}}
}

// validLeaf returns a valid expression of a sort without operands.
func validLeaf(choose func(n int) int, sort int) api.Expr {
	switch sort {
	case api.SortNumber:
		if choose(2) == 0 {
			return api.Expr{Op: api.OpNumber, Num: choose(choose(api.MaxUnits+1) + 1)}
		}
		return api.Expr{Op: api.OpName, Text: pick(choose, "kind", "units", "weekday", "minute", "total", "spent")}
	case api.SortText:
		if choose(2) == 0 {
			return api.Expr{Op: api.OpText, Text: Name(choose)}
		}
		return api.Expr{Op: api.OpName, Text: pick(choose, "zone", "band")}
	}
	return api.Expr{Op: api.OpName, Text: "family"}
}

// unique returns a name that is different for each i from 0 to 9.
func unique(choose func(n int) int, i int) string {
	name := Name(choose)
	return name[:min(len(name), api.MaxName-2)] + "-" + strconv.Itoa(i)
}
