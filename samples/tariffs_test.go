package samples

import (
	"math/rand"
	"testing"

	"billing/api"
	"billing/checker"
	"billing/lexer"
	"billing/names"
	"billing/printer"
)

// count counts the operators of an expression.
func count(found map[int]int, e api.Expr) {
	found[e.Op]++
	for _, x := range e.Args {
		count(found, x)
	}
}

// The tariffs are of use for tests: all of them have a text, few are valid, and all optional parts are there or not.
func TestTariff(t *testing.T) {
	rnd := rand.New(rand.NewSource(1))
	found := map[bool]int{}
	valid := 0
	for range 2000 {
		x := Tariff(rnd.Intn)
		if s, err := printer.Tariff(x); s == "" || err != api.OK {
			t.Fatalf("%+v: %v", x, err)
		}
		if checker.Tariff(x) == api.OK {
			valid++
		}
		for _, there := range []bool{x.Split, x.From%api.Day != 0, len(x.Zones) > 0, len(x.Bands) > 0, len(x.Rates) > 0, len(x.Discounts) > 0} {
			found[there]++
		}
	}
	if found[true] < 6000 || found[false] < 4000 || valid > 20 {
		t.Error(found, valid)
	}
}

// The expressions have a text and all operators, and at most as many levels as were asked for.
func TestExpr(t *testing.T) {
	rnd := rand.New(rand.NewSource(2))
	found := map[int]int{}
	for range 5000 {
		e := Expr(rnd.Intn, 4)
		if s, err := printer.Expr(e); s == "" || err != api.OK {
			t.Fatalf("%+v: %v", e, err)
		}
		count(found, e)
		if e := Expr(rnd.Intn, 1); len(e.Args) > 0 {
			t.Fatalf("%+v", e)
		}
	}
	for op := api.OpNumber; op < api.Ops; op++ {
		if found[op] < 500 {
			t.Error("the operator", op, "only", found[op])
		}
	}
}

// The names are no keywords, of all lengths.
func TestName(t *testing.T) {
	rnd := rand.New(rand.NewSource(3))
	found := map[int]int{}
	for range 20000 {
		s := Name(rnd.Intn)
		if !names.Valid(s) || lexer.Keyword(s) {
			t.Fatal(s)
		}
		found[len(s)]++
	}
	for length := 1; length <= api.MaxName; length++ {
		if found[length] < 10 {
			t.Error("the length", length, "only", found[length])
		}
	}
}

// The valid tariffs are valid, and often covered or not.
func TestValidTariff(t *testing.T) {
	rnd := rand.New(rand.NewSource(4))
	found := map[bool]int{}
	for range 5000 {
		x := ValidTariff(rnd.Intn)
		if err := checker.Tariff(x); err != api.OK {
			t.Fatalf("%+v: %v", x, err)
		}
		found[checker.Covered(x, api.KindVoice)]++
	}
	if found[true] < 500 || found[false] < 500 {
		t.Error(found)
	}
}

// The valid expressions have the sort that was asked for, and all operators.
func TestValidExpr(t *testing.T) {
	rnd := rand.New(rand.NewSource(5))
	found := map[int]int{}
	for range 5000 {
		for sort := api.SortNumber; sort <= api.SortTruth; sort++ {
			e := ValidExpr(rnd.Intn, sort, 1+rnd.Intn(6))
			if got, err := checker.Expr(e); got != sort || err != api.OK {
				t.Fatalf("%+v: %v", e, err)
			}
			count(found, e)
		}
	}
	for op := api.OpNumber; op < api.Ops; op++ {
		if found[op] < 500 {
			t.Error("the operator", op, "only", found[op])
		}
	}
}
