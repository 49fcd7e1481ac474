package samples

import (
	"math/rand"
	"reflect"
	"testing"

	"billing/api"
)

// fill overwrites the operands of an expression, with those of the operands.
func fill(e api.Expr) {
	for i, x := range e.Args {
		fill(x)
		e.Args[i] = api.Expr{Text: "overwritten"}
	}
}

// A copy is equal, and remains so when the original changes.
func TestCopyExpr(t *testing.T) {
	rnd := rand.New(rand.NewSource(8))
	for range 1000 {
		e := Expr(rnd.Intn, 4)
		first, second := CopyExpr(e), CopyExpr(e)
		fill(e)
		if !reflect.DeepEqual(first, second) || len(e.Args) > 0 && reflect.DeepEqual(first, e) {
			t.Fatalf("%+v, %+v, %+v", e, first, second)
		}
	}
}

// Each negation is one level.
func TestNegations(t *testing.T) {
	family := api.Expr{Op: api.OpName, Text: "family"}
	for count := range 5 {
		e := Negations(family, count)
		for range count {
			if e.Op != api.OpNot || len(e.Args) != 1 {
				t.Fatalf("%+v", e)
			}
			e = e.Args[0]
		}
		if !reflect.DeepEqual(e, family) {
			t.Fatalf("%+v", e)
		}
	}
}
