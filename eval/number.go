package eval

import (
	"billing/api"
	"billing/numbers"
)

// greatest is the greatest absolute value of a number.
const greatest = 1 << 62

// number returns the value of a valid expression of the sort number, if it has one.
func number(e api.Expr, env api.Env) (int, bool) {
	switch e.Op {
	case api.OpNumber:
		return e.Num, true
	case api.OpName:
		return within(attribute(e.Text, env))
	}
	a, b, ok := operands(e, env)
	if !ok {
		return 0, false
	}
	return operate(e.Op, a, b)
}

// operands returns the values of the two operands of an operation with numbers, and whether both have one.
func operands(e api.Expr, env api.Env) (a, b int, ok bool) {
	ok = true
	value := func(operand api.Expr) int {
		n, has := number(operand, env)
		ok = ok && has
		return n
	}
	a, b = value(e.Args[0]), value(e.Args[1])
	return a, b, ok
}

// operate returns what an operator makes of two numbers, if that is a number.
func operate(op, a, b int) (int, bool) {
	switch op {
	case api.OpSub:
		b = -b
		fallthrough
	case api.OpAdd:
		// Two numbers add up to at most 2^63 in absolute value: if that wraps around, it is no number all the same.
		return within(a + b)
	case api.OpMul:
		if a != 0 && max(b, -b) > greatest/max(a, -a) {
			return 0, false
		}
		return a * b, true
	}
	if b == 0 {
		return 0, false
	}
	if op == api.OpMod {
		return a % b, true
	}
	return a / b, true
}

// within returns an integer, if it is a number.
func within(n int) (int, bool) {
	if !numbers.Within(n, -greatest, greatest) {
		return 0, false
	}
	return n, true
}

// attribute returns the attribute of the sort number that has a name.
func attribute(name string, env api.Env) int {
	switch name {
	case "kind":
		return env.Kind
	case "units":
		return env.Units
	case "weekday":
		return env.Weekday
	case "minute":
		return env.Minute
	case "total":
		return env.Total
	}
	return env.Spent
}
