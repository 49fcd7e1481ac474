package parser

import (
	"billing/api"
	"billing/expressions"
)

// expr takes an expression.
func (r *reader) expr() api.Expr {
	left := r.both()
	for r.skip("or") {
		left = operation(api.OpOr, left, r.both())
	}
	return left
}

// both takes an operand of or.
func (r *reader) both() api.Expr {
	left := r.negated()
	for r.skip("and") {
		left = operation(api.OpAnd, left, r.negated())
	}
	return left
}

// negated takes an operand of and or of not.
func (r *reader) negated() api.Expr {
	if r.skip("not") {
		return operation(api.OpNot, r.negated())
	}
	return r.compared()
}

// compared takes a comparison, or a sum alone.
func (r *reader) compared() api.Expr {
	left := r.sum()
	switch {
	case r.skip("="):
		return operation(api.OpEqual, left, r.sum())
	case r.skip("<>"):
		return operation(api.OpUnequal, left, r.sum())
	case r.skip("<"):
		return operation(api.OpLess, left, r.sum())
	case r.skip("<="):
		return operation(api.OpAtMost, left, r.sum())
	case r.skip(">"):
		return operation(api.OpLess, r.sum(), left)
	case r.skip(">="):
		return operation(api.OpAtMost, r.sum(), left)
	}
	return left
}

// sum takes an operand of a comparison.
func (r *reader) sum() api.Expr {
	left := r.product()
	for {
		switch {
		case r.skip("+"):
			left = operation(api.OpAdd, left, r.product())
		case r.skip("-"):
			left = operation(api.OpSub, left, r.product())
		default:
			return left
		}
	}
}

// product takes an operand of + or -.
func (r *reader) product() api.Expr {
	left := r.primary()
	for {
		switch {
		case r.skip("*"):
			left = operation(api.OpMul, left, r.primary())
		case r.skip("/"):
			left = operation(api.OpDiv, left, r.primary())
		case r.skip("%"):
			left = operation(api.OpMod, left, r.primary())
		default:
			return left
		}
	}
}

// primary takes an operand of *, / or %.
func (r *reader) primary() api.Expr {
	if r.skip("(") {
		inside := r.expr()
		r.want(")")
		return inside
	}
	switch r.rest[0].Kind {
	case api.TokenNumber:
		return api.Expr{Op: api.OpNumber, Num: r.number()}
	case api.TokenText:
		text := r.rest[0].Text
		r.rest = r.rest[1:]
		return api.Expr{Op: api.OpText, Text: text}
	}
	return api.Expr{Op: api.OpName, Text: r.take(isAttribute).Text}
}

// operation returns the expression of an operator and its operands.
func operation(op int, operands ...api.Expr) api.Expr {
	return api.Expr{Op: op, Args: operands}
}

// isAttribute reports whether a token is an attribute.
func isAttribute(t api.Token) bool {
	return t.Kind == api.TokenWord && expressions.Sort(t.Text) != 0 || isPlain(t)
}
