package discount

import (
	"math/big"
	"math/rand"
	"slices"
	"time"

	"billing/api"
	"billing/eval"
	"billing/samples"
)

// family and others are conditions: that the usage is one of a family, and that it is not.
func family() api.Expr { return api.Expr{Op: api.OpName, Text: "family"} }
func others() api.Expr { return samples.Negations(family(), 1) }

// modelClock returns the weekday of an instant and the minute of its day, from the calendar of the standard library.
func modelClock(instant int) (weekday, minute int) {
	if instant < 0 || instant >= 146097*86400 {
		return -1, 0
	}
	// A duration cannot be as long as all instants, but a day of the month can be any.
	moment := time.Date(2000, time.January, 1+instant/86400, 0, 0, instant%86400, 0, time.UTC)
	return (int(moment.Weekday()) + 6) % 7, 60*moment.Hour() + moment.Minute()
}

// modelShare returns points hundredths of a percent of what remains, rounded: the integer part of half a unit more.
func modelShare(left, points int) int {
	twice := new(big.Int).Mul(big.NewInt(int64(left)), big.NewInt(2*int64(points)))
	return int(new(big.Int).Div(twice.Add(twice, big.NewInt(10000)), big.NewInt(20000)).Int64())
}

// modelApply returns the discounts, what remains and the error: the sentences of P31.2.
func modelApply(list []api.Discount, env api.Env, gross int) ([]api.Given, int, api.Errno) {
	if gross < 0 || gross > 1<<50 {
		return nil, 0, api.ErrRange
	}
	var given []api.Given
	remains := gross
	for _, d := range list {
		if !eval.Holds(d.When, env) {
			continue
		}
		if d.Points < 0 || d.Points > 10000 {
			return nil, 0, api.ErrRange
		}
		share := modelShare(remains, d.Points)
		remains -= share
		if share != 0 {
			given = append(given, api.Given{Name: d.Name, Amount: share})
		}
	}
	return given, remains, api.OK
}

// someCondition returns a condition, which seldom is not valid.
func someCondition(rnd *rand.Rand) api.Expr {
	switch rnd.Intn(12) {
	case 0:
		return samples.Expr(rnd.Intn, 1+rnd.Intn(4))
	case 1:
		return samples.ValidExpr(rnd.Intn, api.SortNumber+rnd.Intn(2), 1+rnd.Intn(4))
	case 2:
		return samples.Negations(family(), 14+rnd.Intn(4))
	case 3, 4, 5:
		return samples.Negations(family(), rnd.Intn(2))
	}
	return samples.ValidExpr(rnd.Intn, api.SortTruth, 1+rnd.Intn(4))
}

// somePoints returns hundredths of a percent, which now and then are few, all or none of them, and, if wrong, seldom not permitted.
func somePoints(rnd *rand.Rand, wrong bool) int {
	if wrong && rnd.Intn(30) == 0 {
		return []int{-1, 10001, samples.Integer(rnd.Intn)}[rnd.Intn(3)]
	}
	return []int{rnd.Intn(10001), rnd.Intn(10001), 1000 * rnd.Intn(11), rnd.Intn(5), 0, 1, 9999, 10000}[rnd.Intn(8)]
}

// someDiscounts returns discounts, whose names may repeat and need not be names.
func someDiscounts(rnd *rand.Rand, wrong bool) []api.Discount {
	var list []api.Discount
	for range rnd.Intn(8) {
		d := api.Discount{Name: []string{"a", "b", "", "No name\xff", samples.Name(rnd.Intn)}[rnd.Intn(5)], When: someCondition(rnd), Points: somePoints(rnd, wrong)}
		list = append(list, d)
	}
	return list
}

// someGross returns an amount, small or great.
func someGross(rnd *rand.Rand) int {
	return []int{rnd.Intn(100), rnd.Intn(100000), rnd.Intn(api.MaxAmount + 1), api.MaxAmount - rnd.Intn(3), 0}[rnd.Intn(5)]
}

// someEnv returns attributes that are often small numbers.
func someEnv(rnd *rand.Rand) api.Env {
	number := func() int { return samples.Integer(rnd.Intn) }
	texts := []string{"", "home", "day", samples.Name(rnd.Intn)}
	return api.Env{
		Kind: number(), Units: number(), Weekday: number(), Minute: number(), Total: number(), Spent: number(),
		Zone: texts[rnd.Intn(4)], Band: texts[rnd.Intn(4)], Family: rnd.Intn(2) == 0,
	}
}

// duplicate returns discounts that are equal and share no memory.
func duplicate(list []api.Discount) []api.Discount {
	list = slices.Clone(list)
	for i := range list {
		list[i].When = samples.CopyExpr(list[i].When)
	}
	return list
}
