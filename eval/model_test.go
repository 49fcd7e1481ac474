package eval

import (
	"bytes"
	"math"
	"math/big"
	"math/rand"
	"testing"

	"billing/api"
	"billing/checker"
)

// num, text, name and op are expressions.
func num(n int) api.Expr                         { return api.Expr{Op: api.OpNumber, Num: n} }
func word(s string) api.Expr                     { return api.Expr{Op: api.OpText, Text: s} }
func name(s string) api.Expr                     { return api.Expr{Op: api.OpName, Text: s} }
func op(kind int, operands ...api.Expr) api.Expr { return api.Expr{Op: kind, Args: operands} }

// limits are integers at and around the limits of numbers and of ints.
func limits() []int {
	var list []int
	for _, n := range []int{0, 1 << 10, 1 << 31, 3037000500, api.MaxUnits, 1 << 60, 1 << 61, 1 << 62, math.MaxInt - 2} {
		list = append(list, n-2, n-1, n, n+1, n+2, -n-1, -n, -n+1)
	}
	return append(list, 7, -7, 60, math.MinInt, math.MaxInt)
}

// anyEnv returns attributes, few of which are numbers that leave much room.
func anyEnv(rnd *rand.Rand) api.Env {
	some := limits()
	number := func() int {
		if rnd.Intn(3) == 0 {
			return some[rnd.Intn(len(some))]
		}
		return rnd.Intn(20) - 5
	}
	texts := []string{"", "home", "work", "\xff", "a", "home ", "Home"}
	return api.Env{
		Kind: number(), Units: number(), Weekday: number(), Minute: number(), Total: number(), Spent: number(),
		Zone: texts[rnd.Intn(len(texts))], Band: texts[rnd.Intn(len(texts))], Family: rnd.Intn(2) == 0,
	}
}

// restrict returns a mathematical integer if it is a number, and otherwise nil.
func restrict(n *big.Int) *big.Int {
	most := new(big.Int).Exp(big.NewInt(2), big.NewInt(62), nil)
	if n.CmpAbs(most) > 0 {
		return nil
	}
	return n
}

// modelNumber returns the value of a valid expression, or nil: the definition.
func modelNumber(e api.Expr, env api.Env) *big.Int {
	attributes := map[string]int{"kind": env.Kind, "units": env.Units, "weekday": env.Weekday, "minute": env.Minute, "total": env.Total, "spent": env.Spent}
	switch e.Op {
	case api.OpNumber:
		return big.NewInt(int64(e.Num))
	case api.OpName:
		return restrict(big.NewInt(int64(attributes[e.Text])))
	}
	a, b := modelNumber(e.Args[0], env), modelNumber(e.Args[1], env)
	if a == nil || b == nil {
		return nil
	}
	switch e.Op {
	case api.OpAdd:
		return restrict(new(big.Int).Add(a, b))
	case api.OpSub:
		return restrict(new(big.Int).Sub(a, b))
	case api.OpMul:
		return restrict(new(big.Int).Mul(a, b))
	}
	if b.Sign() == 0 {
		return nil
	}
	// The quotient without its fraction: that of the absolute values, with the sign of the exact one.
	quotient := new(big.Int).Div(new(big.Int).Abs(a), new(big.Int).Abs(b))
	if a.Sign()*b.Sign() < 0 {
		quotient.Neg(quotient)
	}
	if e.Op == api.OpDiv {
		return restrict(quotient)
	}
	return restrict(new(big.Int).Sub(a, new(big.Int).Mul(b, quotient)))
}

// modelText returns the value of a valid expression: the definition.
func modelText(e api.Expr, env api.Env) string {
	if e.Op == api.OpName {
		return map[string]string{"zone": env.Zone, "band": env.Band}[e.Text]
	}
	return e.Text
}

// modelHolds reports whether a valid expression holds: the definition.
func modelHolds(e api.Expr, env api.Env) bool {
	switch e.Op {
	case api.OpName:
		return env.Family
	case api.OpNot:
		return !modelHolds(e.Args[0], env)
	case api.OpAnd, api.OpOr:
		count := 0
		for _, x := range e.Args {
			if modelHolds(x, env) {
				count++
			}
		}
		return count == 2 || count == 1 && e.Op == api.OpOr
	}
	var order int
	if sort, _ := checker.Expr(e.Args[0]); sort == api.SortText {
		order = bytes.Compare([]byte(modelText(e.Args[0], env)), []byte(modelText(e.Args[1], env)))
	} else {
		a, b := modelNumber(e.Args[0], env), modelNumber(e.Args[1], env)
		if a == nil || b == nil {
			return false
		}
		order = a.Cmp(b)
	}
	return map[int]bool{api.OpEqual: order == 0, api.OpUnequal: order != 0, api.OpLess: order < 0, api.OpAtMost: order <= 0}[e.Op]
}

// result is what the three functions return for an expression.
type result struct {
	number       int
	hasNumber    bool
	text         string
	hasText      bool
	holds        bool
	sort         int
	withoutValue bool
}

// check compares the three functions with the model, for any expression, and returns what they should be.
func check(t *testing.T, e api.Expr, env api.Env) result {
	t.Helper()
	var want result
	want.sort, _ = checker.Expr(e)
	switch want.sort {
	case api.SortNumber:
		if n := modelNumber(e, env); n != nil {
			want.number, want.hasNumber = int(n.Int64()), true
		} else {
			want.withoutValue = true
		}
	case api.SortText:
		want.text, want.hasText = modelText(e, env), true
	case api.SortTruth:
		want.holds = modelHolds(e, env)
	}
	if n, has := Number(e, env); n != want.number || has != want.hasNumber {
		t.Fatalf("Number(%.500v, %+v) = %d, %v, not %+v", e, env, n, has, want)
	}
	if s, has := Text(e, env); s != want.text || has != want.hasText {
		t.Fatalf("Text(%.500v, %+v) = %q, %v, not %+v", e, env, s, has, want)
	}
	if holds := Holds(e, env); holds != want.holds {
		t.Fatalf("Holds(%.500v, %+v) = %v", e, env, holds)
	}
	return want
}
