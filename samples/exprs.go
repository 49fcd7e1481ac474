package samples

import (
	"slices"

	"billing/api"
)

// CopyExpr returns an expression that is equal and shares no memory.
func CopyExpr(e api.Expr) api.Expr {
	e.Args = slices.Clone(e.Args)
	for i := range e.Args {
		e.Args[i] = CopyExpr(e.Args[i])
	}
	return e
}

// Negations returns an expression in so many negations.
func Negations(e api.Expr, count int) api.Expr {
	for range count {
		e = api.Expr{Op: api.OpNot, Args: []api.Expr{e}}
	}
	return e
}
