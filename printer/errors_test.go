package printer

import (
	"math"
	"math/rand"
	"reflect"
	"slices"
	"strings"
	"testing"

	"billing/api"
	"billing/samples"
)

// keywords are all keywords of the language.
const keywords = "tariff from split zone band otherwise rate to any in setup upto per at discount points when and or not mon tue wed thu fri sat sun holiday voice text data content kind units weekday minute total spent family"

// notNames are texts that are no printable names; empty is one of them.
func notNames() []string {
	list := []string{"", "A", "aB", "1a", "-a", "0", "a b", " a", "a ", "a_b", "a\x00", "a\n", "a;", "\xff", "a\xff", "\u00e4", "a\u0661", strings.Repeat("a", 25), strings.Repeat("a", 1000)}
	return append(list, strings.Fields(keywords)...)
}

// notNumbers are numbers that are not printable.
func notNumbers() []int {
	return []int{-1, -9999999999999999, 10000000000000000, math.MinInt, math.MaxInt}
}

// sound are printable expressions, one of each operator.
func sound() []api.Expr {
	a := name("a")
	list := []api.Expr{num(1), text("a"), a, op(api.OpNot, a)}
	for kind := api.OpAnd; kind < api.Ops; kind++ {
		list = append(list, op(kind, a, a))
	}
	return list
}

// notExprs are expressions that are not printable, each for one reason.
func notExprs() []api.Expr {
	a := name("a")
	list := []api.Expr{{}, op(-1), op(0, a), op(0, a, a), op(api.Ops), op(api.Ops, a), op(api.Ops, a, a), op(math.MinInt), op(math.MaxInt, a, a)}
	for _, e := range sound() {
		for n := range 4 {
			if changed := e; n != len(e.Args) {
				changed.Args = []api.Expr{a, a, a}[:n]
				list = append(list, changed)
			}
		}
		for _, n := range append(notNumbers(), 1) {
			if changed := e; e.Op != api.OpNumber || n != 1 {
				changed.Num = n
				list = append(list, changed)
			}
		}
		if changed := e; e.Text == "" {
			changed.Text = "a"
			list = append(list, changed)
		}
	}
	for _, s := range []string{`"`, `a"`, "\n", "\t", "a\x1f", "\x7f", "\u00e4", "\xff", "a\x00", strings.Repeat("a", 201), strings.Repeat("a", 100000)} {
		list = append(list, text(s))
	}
	for _, s := range notNames() {
		if !slices.Contains(strings.Fields("kind units weekday minute total spent zone band family"), s) {
			list = append(list, name(s))
		}
	}
	return list
}

// P25.2: what is not printable, alone and within expressions.
func TestExprErrors(t *testing.T) {
	one := num(1)
	for _, e := range sound() {
		want, _ := modelExpr(e)
		checkExpr(t, e, want)
	}
	for _, e := range notExprs() {
		for _, x := range []api.Expr{e, op(api.OpNot, e), op(api.OpAnd, e, one), op(api.OpAnd, one, e), op(api.OpSub, e, e), op(api.OpMul, op(api.OpLess, one, op(api.OpNot, e)), one), op(api.OpOr, one, op(api.OpOr, op(api.OpOr, e, one), one))} {
			refuseExpr(t, x, api.ErrInvalid)
			refuseTariff(t, api.Tariff{Name: "a", Discounts: []api.Discount{{Name: "a", When: one}, {Name: "b", When: x}}}, api.ErrInvalid)
			refuseTariff(t, api.Tariff{Name: "a", Discounts: []api.Discount{{Name: "a", When: x}, {Name: "b", When: one}}}, api.ErrInvalid)
		}
	}
}

// P25.1: each field of a tariff that is not printable, wherever it is.
func TestTariffErrors(t *testing.T) {
	refuse := func(change func(x *api.Tariff)) {
		t.Helper()
		x := basic()
		change(&x)
		refuseTariff(t, x, api.ErrInvalid)
	}
	for _, s := range notNames() {
		refuse(func(x *api.Tariff) { x.Name = s })
		for i := range 2 {
			refuse(func(x *api.Tariff) { x.Zones[i].Name = s })
			refuse(func(x *api.Tariff) { x.Bands[i].Name = s })
			refuse(func(x *api.Tariff) { x.Discounts[i].Name = s })
			if s != "" {
				refuse(func(x *api.Tariff) { x.Rates[i].Zone = s })
				refuse(func(x *api.Tariff) { x.Rates[3-i].Band = s })
			}
		}
	}
	for _, n := range []int{-1, api.Forever, api.Forever + 1, -api.Day, math.MinInt, math.MaxInt} {
		refuse(func(x *api.Tariff) { x.From = n })
	}
	for _, s := range []string{"", " ", "4x", "x4", "+49", "4 9", "-1", "4,9", "49\n", "\u0661", "4\xff", "12345678901234567", strings.Repeat("1", 1000)} {
		refuse(func(x *api.Tariff) { x.Zones[0].Prefixes[0] = s })
		refuse(func(x *api.Tariff) { x.Zones[0].Prefixes[1] = s })
		refuse(func(x *api.Tariff) { x.Zones[1].Prefixes[0] = s })
	}
	refuse(func(x *api.Tariff) { x.Zones[0].Prefixes = nil })
	refuse(func(x *api.Tariff) { x.Zones[1].Prefixes = []string{} })
	for i := range 3 {
		for _, n := range []int{0, -1, 256, 512, math.MinInt, math.MaxInt} {
			refuse(func(x *api.Tariff) { x.Bands[0].Slots[i].Days = n })
		}
		for _, n := range []int{-1, 1440, 1441, math.MinInt, math.MaxInt} {
			refuse(func(x *api.Tariff) { x.Bands[0].Slots[i].From = n })
		}
		for _, n := range []int{-1, 1441, math.MinInt, math.MaxInt} {
			refuse(func(x *api.Tariff) { x.Bands[0].Slots[i].To = n })
		}
	}
}

// P25.1: the same for rates and discounts.
func TestRateErrors(t *testing.T) {
	refuse := func(change func(x *api.Tariff)) {
		t.Helper()
		x := basic()
		change(&x)
		refuseTariff(t, x, api.ErrInvalid)
	}
	for i := range 4 {
		for _, n := range []int{0, -1, api.Kinds, api.Kinds + 1, math.MinInt, math.MaxInt} {
			refuse(func(x *api.Tariff) { x.Rates[i].Kind = n })
		}
		refuse(func(x *api.Tariff) { x.Rates[i].Steps = nil })
		refuse(func(x *api.Tariff) { x.Rates[i].Steps = []api.Step{} })
		for _, n := range notNumbers() {
			refuse(func(x *api.Tariff) { x.Rates[i].Setup = n })
			refuse(func(x *api.Tariff) { x.Rates[i].Steps[0].Upto = n })
			refuse(func(x *api.Tariff) { x.Rates[i].Steps[0].Quantum = n })
			refuse(func(x *api.Tariff) { x.Rates[i].Steps[len(x.Rates[i].Steps)-1].Price = n })
		}
	}
	for i := range 3 {
		for _, n := range notNumbers() {
			refuse(func(x *api.Tariff) { x.Discounts[i].Points = n })
		}
	}
}

// long returns the expression 1 + 1 + .. with so many operators, which associate to the left.
func long(first, operators int) api.Expr {
	e := num(first)
	for range operators {
		e = op(api.OpAdd, e, num(1))
	}
	return e
}

// nested returns an expression in so many others, as the operand that wrap puts it to.
func nested(inner api.Expr, levels int, wrap func(e api.Expr) api.Expr) api.Expr {
	for range levels {
		inner = wrap(inner)
	}
	return inner
}

// P25.2: texts of the greatest length, and longer ones.
func TestLongExprs(t *testing.T) {
	not := func(e api.Expr) api.Expr { return op(api.OpNot, e) }
	behind := func(e api.Expr) api.Expr { return op(api.OpSub, num(1), e) } // 1 - (..) is six bytes longer
	before := func(e api.Expr) api.Expr { return op(api.OpAnd, e, name("a")) }
	for _, e := range []api.Expr{long(1000, 16383), nested(name("aaaa"), 16383, not), nested(op(api.OpSub, num(1), num(1000000000)), 10920, behind), nested(num(1111), 10922, before)} {
		want, _ := modelExpr(e)
		if len(want) > api.MaxSourceText || len(want) < api.MaxSourceText-6 {
			t.Error(len(want), "bytes")
		}
		checkExpr(t, e, want)
	}
	exact, _ := Expr(long(1000, 16383))
	if len(exact) != api.MaxSourceText {
		t.Error(len(exact))
	}
	for _, e := range []api.Expr{long(10000, 16383), long(1, 16384), nested(name("aaaaa"), 16383, not), nested(num(1), 10923, behind), nested(num(11111), 10922, before), long(1, 60000), nested(num(1), 65535, not), nested(num(1), 65535, behind), nested(num(1), 65535, before), nested(text(strings.Repeat("a", 200)), 16, func(e api.Expr) api.Expr { return op(api.OpOr, e, e) })} {
		refuseExpr(t, e, api.ErrTooLong)
		refuseTariff(t, api.Tariff{Name: "a", Discounts: []api.Discount{{Name: "d", When: e}}}, api.ErrTooLong)
	}
	for _, e := range []api.Expr{long(-1, 60000), nested(name("zones "), 65535, not), nested(num(-1), 65535, behind), op(api.OpAnd, long(1, 60000), name("A")), op(api.OpAnd, name("A"), long(1, 60000))} {
		refuseExpr(t, e, api.ErrInvalid)
	}
}

// P25.1: the same for tariffs: whatever they have too much of.
func TestLongTariffs(t *testing.T) {
	zones := slices.Repeat([]api.Zone{{Name: "z", Prefixes: []string{"1"}}}, 5955)
	x := api.Tariff{Name: "aaaaa", Zones: zones}
	checkTariff(t, x, modelTariff(x))
	if s, _ := Tariff(x); len(s) != api.MaxSourceText {
		t.Error(len(s))
	}
	x.Name = "aaaaaa"
	refuseTariff(t, x, api.ErrTooLong)
	when := text(strings.Repeat("a", 200))
	for _, x := range []api.Tariff{
		{Zones: append(slices.Clone(zones), zones[0])},
		{Zones: []api.Zone{{Name: "z", Prefixes: slices.Repeat([]string{"1234567890123456"}, 4000)}}},
		{Bands: slices.Repeat([]api.Band{{Name: "b"}}, 4000)},
		{Bands: []api.Band{{Name: "b", Slots: slices.Repeat([]api.Slot{{Days: 255}}, 1500)}}},
		{Rates: slices.Repeat([]api.Rate{{Kind: 1, Steps: []api.Step{{}}}}, 2000)},
		{Rates: []api.Rate{{Kind: 1, Steps: slices.Repeat([]api.Step{{}}, 6000)}}},
		{Discounts: slices.Repeat([]api.Discount{{Name: "d", When: when}}, 300)},
		{Rates: []api.Rate{{Kind: 1, Steps: slices.Repeat([]api.Step{{}}, 1000000)}}},
	} {
		x.Name = "a"
		refuseTariff(t, x, api.ErrTooLong)
		x.Name = "A"
		refuseTariff(t, x, api.ErrInvalid)
		x.Name = "a"
		x.Discounts = append(slices.Clone(x.Discounts), api.Discount{Name: "d", When: num(-1)})
		refuseTariff(t, x, api.ErrInvalid)
	}
}

// R1: expressions that contain themselves.
func TestEndless(t *testing.T) {
	one, two := make([]api.Expr, 1), make([]api.Expr, 2)
	one[0] = op(api.OpNot, one...)
	two[0] = op(api.OpAnd, two...)
	two[1] = op(api.OpOr, two...)
	refuseExpr(t, one[0], api.ErrInvalid)
	refuseExpr(t, two[1], api.ErrInvalid)
}

// R5: arguments do not change, and neither does their spare capacity.
func TestArguments(t *testing.T) {
	rnd := rand.New(rand.NewSource(255))
	spare := func(x api.Tariff) api.Tariff {
		x.Zones = samples.Spare(x.Zones, api.Zone{Name: "spare"})
		x.Bands = samples.Spare(x.Bands, api.Band{Name: "spare"})
		x.Rates = samples.Spare(x.Rates, api.Rate{Zone: "spare"})
		x.Discounts = samples.Spare(x.Discounts, api.Discount{Name: "spare"})
		for i := range x.Zones {
			x.Zones[i].Prefixes = samples.Spare(x.Zones[i].Prefixes, "spare")
		}
		for i := range x.Bands {
			x.Bands[i].Slots = samples.Spare(x.Bands[i].Slots, api.Slot{Days: 7})
		}
		for i := range x.Rates {
			x.Rates[i].Steps = samples.Spare(x.Rates[i].Steps, api.Step{Upto: 7})
		}
		for i, d := range x.Discounts {
			x.Discounts[i].When.Args = samples.Spare(d.When.Args, name("spare"))
		}
		return x
	}
	whole := func(x api.Tariff) []any {
		list := []any{x, x.Zones[:cap(x.Zones)], x.Bands[:cap(x.Bands)], x.Rates[:cap(x.Rates)], x.Discounts[:cap(x.Discounts)]}
		for _, z := range x.Zones {
			list = append(list, z.Prefixes[:cap(z.Prefixes)])
		}
		for _, b := range x.Bands {
			list = append(list, b.Slots[:cap(b.Slots)])
		}
		for _, r := range x.Rates {
			list = append(list, r.Steps[:cap(r.Steps)])
		}
		for _, d := range x.Discounts {
			list = append(list, d.When.Args[:cap(d.When.Args)])
		}
		return list
	}
	for range 500 {
		state := rnd.Int63()
		x := spare(samples.Tariff(rand.New(rand.NewSource(state)).Intn))
		y := spare(samples.Tariff(rand.New(rand.NewSource(state)).Intn))
		first, _ := Tariff(x)
		second, _ := Tariff(x)
		if first != second || !reflect.DeepEqual(whole(x), whole(y)) {
			t.Fatalf("%+v has changed, or its text %q, %q", y, first, second)
		}
		for i, d := range x.Discounts {
			if Expr(d.When); !reflect.DeepEqual(whole(x), whole(y)) {
				t.Fatalf("%+v has changed", y.Discounts[i])
			}
		}
	}
}
