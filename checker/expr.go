package checker

import (
	"slices"

	"billing/api"
	"billing/expressions"
	"billing/numbers"
)

// sortAt returns the sort of an expression at a level.
func sortAt(e api.Expr, level int) (int, api.Errno) {
	if err := checkFields(e, level); err != api.OK {
		return 0, err
	}
	var sorts []int
	for _, operand := range e.Args {
		sort, err := sortAt(operand, level+1)
		if err != api.OK {
			return 0, err
		}
		sorts = append(sorts, sort)
	}
	required, sort := signature(e, sorts)
	if slices.ContainsFunc(sorts, func(s int) bool { return s != required }) {
		return 0, api.ErrKind
	}
	return sort, api.OK
}

// checkFields returns the error that an expression at a level has apart from its operands.
func checkFields(e api.Expr, level int) api.Errno {
	switch {
	case level > api.MaxDepth:
		return api.ErrDepth
	case len(e.Args) != expressions.Operands(e.Op):
		return api.ErrKind
	case e.Op == api.OpNumber && !numbers.Within(e.Num, 0, api.MaxUnits):
		return api.ErrRange
	case e.Op == api.OpText && len(e.Text) > api.MaxText:
		return api.ErrTooLong
	case e.Op == api.OpName && expressions.Sort(e.Text) == 0:
		return api.ErrNotFound
	}
	return api.OK
}

// signature returns the sort that an expression requires of its operands, which have the given sorts, and the one that it has itself.
func signature(e api.Expr, sorts []int) (required, own int) {
	switch e.Op {
	case api.OpNumber:
		return 0, api.SortNumber
	case api.OpText:
		return 0, api.SortText
	case api.OpName:
		return 0, expressions.Sort(e.Text)
	case api.OpNot, api.OpAnd, api.OpOr:
		return api.SortTruth, api.SortTruth
	case api.OpEqual, api.OpUnequal:
		if sorts[0] == api.SortText {
			return api.SortText, api.SortTruth
		}
		return api.SortNumber, api.SortTruth
	case api.OpLess, api.OpAtMost:
		return api.SortNumber, api.SortTruth
	}
	return api.SortNumber, api.SortNumber
}
