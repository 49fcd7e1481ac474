package eval

import (
	"cmp"

	"billing/api"
)

// text returns the value of a valid expression of the sort text.
func text(e api.Expr, env api.Env) string {
	switch {
	case e.Op == api.OpText:
		return e.Text
	case e.Text == "zone":
		return env.Zone
	}
	return env.Band
}

// holds reports whether a valid expression of the sort truth holds.
func holds(e api.Expr, env api.Env) bool {
	operand := func(i int) bool { return holds(e.Args[i], env) }
	switch e.Op {
	case api.OpName:
		return env.Family
	case api.OpNot:
		return !operand(0)
	case api.OpAnd:
		return operand(0) && operand(1)
	case api.OpOr:
		return operand(0) || operand(1)
	}
	order, ok := compare(e, env)
	return ok && agrees(e.Op, order)
}

// compare returns -1, 0 or 1 if the first operand of a comparison is less than, equal to or greater than the second one, and whether both have values.
func compare(e api.Expr, env api.Env) (int, bool) {
	if is(e.Args[0], api.SortText) {
		return cmp.Compare(text(e.Args[0], env), text(e.Args[1], env)), true
	}
	a, b, ok := operands(e, env)
	return cmp.Compare(a, b), ok
}

// agrees reports whether a comparison holds for operands that compare like this.
func agrees(op, order int) bool {
	switch op {
	case api.OpUnequal:
		return order != 0
	case api.OpAtMost:
		if order < 0 {
			return true
		}
		fallthrough
	case api.OpEqual:
		return order == 0
	}
	return order < 0
}
