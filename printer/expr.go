package printer

import (
	"strconv"

	"billing/api"
	"billing/lexer"
)

// operator says how an operator is written, how strongly it binds, and how strongly its operands have to bind.
type operator struct {
	symbol           string
	own, left, right int
}

var operators = [api.Ops]operator{
	api.OpOr:      {symbol: "or", own: 1, left: 1, right: 2},
	api.OpAnd:     {symbol: "and", own: 2, left: 2, right: 3},
	api.OpNot:     {symbol: "not", own: 3, right: 3},
	api.OpEqual:   {symbol: "=", own: 4, left: 5, right: 5},
	api.OpUnequal: {symbol: "<>", own: 4, left: 5, right: 5},
	api.OpLess:    {symbol: "<", own: 4, left: 5, right: 5},
	api.OpAtMost:  {symbol: "<=", own: 4, left: 5, right: 5},
	api.OpAdd:     {symbol: "+", own: 5, left: 5, right: 6},
	api.OpSub:     {symbol: "-", own: 5, left: 5, right: 6},
	api.OpMul:     {symbol: "*", own: 6, left: 6, right: 7},
	api.OpDiv:     {symbol: "/", own: 6, left: 6, right: 7},
	api.OpMod:     {symbol: "%", own: 6, left: 6, right: 7},
}

// expr writes an expression where it has to bind as strongly as required.
func (w *writer) expr(e api.Expr, required int) {
	switch e.Op {
	case api.OpNumber:
		w.put(strconv.Itoa(e.Num))
	case api.OpText:
		w.put(lexer.Quote(e.Text))
	case api.OpName:
		w.put(e.Text)
	default:
		o := operators[e.Op]
		if o.own < required {
			w.put("(")
			w.operation(o, e.Args...)
			w.put(")")
		} else {
			w.operation(o, e.Args...)
		}
	}
}

// operation writes an operator between its operands, or in front of the only one.
func (w *writer) operation(o operator, operands ...api.Expr) {
	last := len(operands) - 1
	if last > 0 {
		w.expr(operands[0], o.left)
	}
	w.put(o.symbol)
	w.expr(operands[last], o.right)
}
