package eval

import (
	"math"
	"math/rand"
	"reflect"
	"strings"
	"testing"

	"billing/api"
	"billing/parser"
	"billing/samples"
)

// parsed returns the expression of a text.
func parsed(t *testing.T, s string) api.Expr {
	t.Helper()
	e, _, err := parser.Expr(s)
	if err != api.OK {
		t.Fatal(s, err)
	}
	return e
}

// The examples of the chapter, and others like them.
func TestExamples(t *testing.T) {
	env := api.Env{Units: 60, Zone: "home", Band: "work", Spent: -100}
	for s, want := range map[string]int{
		"0 - 7 / 2": -3, "(0 - 7) % 2": -1, "(0 - 7) / 2": -3, "7 / (0 - 2)": -3, "7 % (0 - 2)": 1, "(0 - 7) % (0 - 2)": -1, "(0 - 7) / (0 - 2)": 3,
		"7 % 2": 1, "6 % 2": 0, "6 / 2": 3, "1 / 2": 0, "0 / 5": 0, "0 % 5": 0, "units * 2 + 1": 121, "units - 61": -1, "spent / 3": -33, "spent % 3": -1, "2 - 3 - 4": -5,
	} {
		if n, has := Number(parsed(t, s), env); n != want || !has {
			t.Error(s, n, has)
		}
	}
	for s, want := range map[string]bool{
		"units / total > 1": false, "not units / total > 1": true, "units / total <= 1": false, "units % total = 0": false, "units % total <> 0": false, "units / total = units / total": false,
		`zone = "home" and units <= 60`: true, `zone = "home" and units < 60`: false, `zone = "world" and units <= 60`: false, `zone = "world" or units <= 60`: true,
		`zone <> band`: true, `zone = band`: false, `"" = ""`: true, "units > 59": true, "units > 60": false, "units >= 60": true, "units >= 61": false, "family": false, "not family": true,
	} {
		if Holds(parsed(t, s), env) != want {
			t.Error(s)
		}
	}
}

// P27.1, P27.2, P27.3: each attribute is the field with its name, and has no value where that is no number.
func TestAttributes(t *testing.T) {
	var env api.Env
	for word, field := range map[string]*int{"kind": &env.Kind, "units": &env.Units, "weekday": &env.Weekday, "minute": &env.Minute, "total": &env.Total, "spent": &env.Spent} {
		for _, n := range limits() {
			*field = n
			want := n >= -(1<<62) && n <= 1<<62
			if got := check(t, name(word), env); got.hasNumber != want || want && got.number != n {
				t.Error(word, n, got)
			}
		}
		*field = 0
	}
	env = api.Env{Kind: 1, Units: 2, Weekday: 3, Minute: 4, Total: 5, Spent: 6}
	for i, word := range []string{"kind", "units", "weekday", "minute", "total", "spent"} {
		if n, has := Number(name(word), env); n != i+1 || !has {
			t.Error(word, n, has)
		}
	}
	for _, s := range []string{"", "zone", "band", "a", "\xff\x00", strings.Repeat("a", 1000)} {
		for _, env := range []api.Env{{Zone: s, Band: "other"}, {Zone: "other", Band: s}} {
			for _, word := range []string{"zone", "band"} {
				if got := check(t, name(word), env); got.text != map[string]string{"zone": env.Zone, "band": env.Band}[word] {
					t.Error(word, env, got)
				}
			}
		}
	}
	if !Holds(name("family"), api.Env{Family: true}) || Holds(name("family"), api.Env{Kind: 1, Zone: "family"}) {
		t.Error("family")
	}
}

// P27.1, P27.3: all operators for each two integers at the limits, as attributes, with the counts of the results.
func TestOperators(t *testing.T) {
	values := map[int]int{}
	for kind := api.OpEqual; kind < api.Ops; kind++ {
		for _, a := range limits() {
			for _, b := range limits() {
				got := check(t, op(kind, name("units"), name("total")), api.Env{Units: a, Total: b})
				if got.hasNumber || got.holds {
					values[kind]++
				}
			}
		}
		if values[kind] < 50 {
			t.Error("the operator", kind, "only", values[kind])
		}
	}
}

// P27.1: sums, differences and products just at the limits of numbers, and beyond them.
func TestLimits(t *testing.T) {
	const most = 1 << 62
	for i, x := range []struct {
		op, a, b, want int
		ok             bool
	}{
		{api.OpAdd, most, 0, most, true}, {api.OpAdd, most, 1, 0, false}, {api.OpAdd, most, most, 0, false}, {api.OpAdd, -most, -most, 0, false}, {api.OpAdd, -most, most, 0, true}, {api.OpAdd, most - 1, 1, most, true},
		{api.OpSub, -most, 0, -most, true}, {api.OpSub, -most, 1, 0, false}, {api.OpSub, -most, most, 0, false}, {api.OpSub, most, -most, 0, false}, {api.OpSub, 0, most, -most, true}, {api.OpSub, 0, -most, most, true},
		{api.OpMul, most, 1, most, true}, {api.OpMul, most, -1, -most, true}, {api.OpMul, -1, -most, most, true}, {api.OpMul, most, 2, 0, false}, {api.OpMul, most, 4, 0, false}, {api.OpMul, most, most, 0, false}, {api.OpMul, -most, -most, 0, false}, {api.OpMul, 1 << 31, 1 << 31, most, true}, {api.OpMul, 1 << 31, -(1 << 31), -most, true}, {api.OpMul, 1<<31 + 1, 1 << 31, 0, false}, {api.OpMul, 1 << 32, 1 << 32, 0, false}, {api.OpMul, 0, most, 0, true}, {api.OpMul, -most, 0, 0, true},
		{api.OpDiv, -most, -1, most, true}, {api.OpDiv, most, -most, -1, true}, {api.OpDiv, most - 1, most, 0, true}, {api.OpDiv, 0, 0, 0, false}, {api.OpDiv, most, 0, 0, false},
		{api.OpMod, -most, -1, 0, true}, {api.OpMod, most - 1, -most, most - 1, true}, {api.OpMod, 1 - most, most, 1 - most, true}, {api.OpMod, 0, 0, 0, false}, {api.OpMod, -most, 0, 0, false},
		{api.OpAdd, most + 1, -1, 0, false}, {api.OpSub, 0, math.MinInt, 0, false}, {api.OpMul, 0, most + 1, 0, false}, {api.OpDiv, 0, math.MinInt, 0, false}, {api.OpMod, math.MaxInt, 2, 0, false}, {api.OpDiv, math.MinInt, -1, 0, false},
	} {
		got := check(t, op(x.op, name("spent"), name("kind")), api.Env{Spent: x.a, Kind: x.b})
		if got.number != x.want || got.hasNumber != x.ok {
			t.Error("case", i, got)
		}
	}
}

// P27.1, P27.3: an operation or a comparison with an operand without a value, on either side and at any level.
func TestWithoutValue(t *testing.T) {
	env := api.Env{Units: 5, Spent: 1<<62 + 1}
	for _, none := range []api.Expr{name("spent"), op(api.OpDiv, name("units"), name("total")), op(api.OpMod, num(1), num(0)), op(api.OpMul, op(api.OpMul, num(api.MaxUnits), num(api.MaxUnits)), num(0))} {
		for kind := api.OpEqual; kind < api.Ops; kind++ {
			for _, e := range []api.Expr{op(kind, none, num(0)), op(kind, num(1), none), op(kind, none, none), op(kind, op(api.OpAdd, none, num(1)), num(0)), op(kind, num(0), op(api.OpSub, num(1), none))} {
				if kind >= api.OpAdd {
					if got := check(t, e, env); !got.withoutValue {
						t.Errorf("%v: %+v", e, got)
					}
				} else if Holds(e, env) || !Holds(op(api.OpNot, e), env) || Holds(op(api.OpNot, op(api.OpNot, e)), env) {
					t.Errorf("%v holds", e)
				}
			}
		}
	}
}

// P27.1 to P27.3: the constants that are valid, and those that are not.
func TestConstants(t *testing.T) {
	for n, want := range map[int]bool{0: true, 1: true, api.MaxUnits: true, api.MaxUnits + 1: false, -1: false, math.MinInt: false, math.MaxInt: false} {
		if got := check(t, num(n), api.Env{}); got.hasNumber != want {
			t.Error(n, got)
		}
	}
	for s, want := range map[string]bool{"": true, "zone": true, "\xff\x00\"": true, strings.Repeat("a", 200): true, strings.Repeat("a", 201): false} {
		if got := check(t, word(s), api.Env{Zone: "home"}); got.hasText != want || want && got.text != s {
			t.Errorf("%q %v", s, got)
		}
	}
	for _, e := range []api.Expr{{Op: api.OpNumber, Num: 7, Text: "units"}, {Op: api.OpName, Num: 9, Text: "units"}, {Op: api.OpAdd, Num: 9, Text: "units", Args: []api.Expr{num(3), num(4)}}} {
		if n, has := Number(e, api.Env{Units: 7}); n != 7 || !has {
			t.Errorf("%v: %d, %v", e, n, has)
		}
	}
	if s, has := Text(api.Expr{Op: api.OpText, Num: -1, Text: "band"}, api.Env{Band: "work"}); s != "band" || !has {
		t.Error(s, has)
	}
}

// P27.3: texts are compared byte by byte, also if they are no text that can be read.
func TestTexts(t *testing.T) {
	list := []string{"", "a", "b", "aa", "a\x00", "A", "\u00e4", "a\u0308", "\xff", "\xfe", " ", "10", "9"}
	for _, a := range list {
		for _, b := range list {
			env := api.Env{Zone: a, Band: b}
			for _, e := range [][]api.Expr{{name("zone"), name("band")}, {name("zone"), word(b)}, {word(a), name("band")}, {word(a), word(b)}} {
				if check(t, op(api.OpEqual, e...), env).holds != (a == b) || check(t, op(api.OpUnequal, e...), env).holds != (a != b) {
					t.Errorf("%q %q", a, b)
				}
				for _, kind := range []int{api.OpLess, api.OpAtMost, api.OpAdd} {
					check(t, op(kind, e...), env)
				}
			}
		}
	}
}

// some are expressions of all sorts, and some that are not valid.
func some() []api.Expr {
	return []api.Expr{num(1), num(60), name("units"), name("spent"), word("a"), word(""), name("zone"), name("family"), op(api.OpNot, name("family")), op(api.OpDiv, num(1), num(0)), op(api.OpLess, num(1), name("units")), num(-1), word(strings.Repeat("a", 201)), name("colour"), {}, op(api.OpNot, num(1)), op(api.OpAdd, num(1), name("colour"))}
}

// P27.1 to P27.3: every operator, and integers that are none, with up to three operands of all kinds.
func TestOperands(t *testing.T) {
	found := map[int]int{}
	env := api.Env{Units: 60, Zone: "a", Family: true}
	for _, kind := range []int{math.MinInt, -1, 0, 1, 2, 3, 4, 5, 6, 7, 8, 9, 10, 11, 12, 13, 14, 15, 16, 17, math.MaxInt} {
		check(t, op(kind), env)
		for _, a := range some() {
			found[check(t, op(kind, a), env).sort]++
			for _, b := range some() {
				found[check(t, op(kind, a, b), env).sort]++
				found[check(t, op(kind, a, b, a), env).sort]++
			}
		}
	}
	if found[0] < 1000 || found[api.SortNumber] < 100 || found[api.SortTruth] < 100 {
		t.Error(found)
	}
}

// P27.1, P27.3, R1: expressions with as many levels as possible, with more, and those that contain themselves.
func TestLevels(t *testing.T) {
	env := api.Env{Family: true}
	for levels := range 20 {
		if Holds(samples.Negations(name("family"), levels), env) != (levels%2 == 0 && levels < 16) {
			t.Error(levels, "negations")
		}
		check(t, samples.Negations(name("family"), levels), env)
	}
	sum := num(1)
	for level := 1; level <= 18; level++ {
		if n, has := Number(sum, env); has != (level <= 16) || has && n != 1<<(level-1) {
			t.Error("level", level, n, has)
		}
		sum = op(api.OpAdd, sum, sum)
	}
	check(t, samples.Negations(name("family"), 60000), env)
	one, two := make([]api.Expr, 1), make([]api.Expr, 2)
	one[0], two[0], two[1] = op(api.OpNot, one...), op(api.OpAdd, two...), op(api.OpAdd, two...)
	check(t, one[0], env)
	check(t, two[1], env)
}

// P27.1 to P27.3: random expressions against the model, of which some operands are changed so that they may not be valid. R5: the arguments do not change.
func TestAgainstModel(t *testing.T) {
	rnd := rand.New(rand.NewSource(27))
	found := map[result]int{}
	for range 60000 {
		e := samples.ValidExpr(rnd.Intn, api.SortNumber+rnd.Intn(3), 1+rnd.Intn(6))
		for range rnd.Intn(8) / 7 {
			place := &e
			for len(place.Args) > 0 && rnd.Intn(3) > 0 {
				place = &place.Args[rnd.Intn(len(place.Args))]
			}
			*place = some()[rnd.Intn(len(some()))]
		}
		given, env := samples.CopyExpr(e), anyEnv(rnd)
		got := check(t, e, env)
		if !reflect.DeepEqual(e, given) {
			t.Fatal("the argument has changed")
		}
		got.number, got.text = min(max(got.number, -1), 1), ""
		found[got]++
	}
	for _, want := range []result{
		{}, {sort: api.SortTruth}, {sort: api.SortTruth, holds: true}, {sort: api.SortText, hasText: true}, {sort: api.SortNumber, withoutValue: true},
		{sort: api.SortNumber, hasNumber: true}, {sort: api.SortNumber, hasNumber: true, number: 1}, {sort: api.SortNumber, hasNumber: true, number: -1},
	} {
		if found[want] < 1000 {
			t.Errorf("%+v only %d", want, found[want])
		}
	}
}

// P27.4: the quotient and the remainder, and the order of two numbers.
func TestQuotients(t *testing.T) {
	units, total := name("units"), name("total")
	whole := op(api.OpAdd, op(api.OpMul, op(api.OpDiv, units, total), total), op(api.OpMod, units, total))
	values := 0
	for _, a := range limits() {
		for _, b := range limits() {
			env := api.Env{Units: a, Total: b}
			_, hasA := Number(units, env)
			_, hasB := Number(total, env)
			if n, has := Number(whole, env); has && n != a {
				t.Error(a, b, n)
			} else if has {
				values++
			}
			count := 0
			for _, e := range []api.Expr{op(api.OpLess, units, total), op(api.OpLess, total, units), op(api.OpEqual, units, total)} {
				if Holds(e, env) {
					count++
				}
			}
			if hasA && hasB && count != 1 || !(hasA && hasB) && count != 0 {
				t.Error(a, b, count)
			}
		}
	}
	if values < 1000 {
		t.Error("only", values)
	}
}

// P27.4: the negation of what is joined.
func TestNegations(t *testing.T) {
	rnd := rand.New(rand.NewSource(274))
	found := map[bool]int{}
	for range 20000 {
		a, b := samples.ValidExpr(rnd.Intn, api.SortTruth, 4), samples.ValidExpr(rnd.Intn, api.SortTruth, 4)
		env := anyEnv(rnd)
		holds := Holds(op(api.OpNot, op(api.OpAnd, a, b)), env)
		if holds != Holds(op(api.OpOr, op(api.OpNot, a), op(api.OpNot, b)), env) || holds == (Holds(a, env) && Holds(b, env)) {
			t.Fatalf("%v %v %+v", a, b, env)
		}
		found[holds]++
	}
	if found[true] < 1000 || found[false] < 1000 {
		t.Error(found)
	}
}
