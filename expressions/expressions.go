// Package expressions knows the operators and the attributes of expressions, as shared/doc/24-parser.md and 26-checker.md define them. Several layers need this.
package expressions

import (
	"billing/api"
	"billing/numbers"
)

// Operands returns how many operands an operator has, or -1 for what is no operator.
func Operands(op int) int {
	switch {
	case !numbers.Within(op, api.OpNumber, api.Ops-1):
		return -1
	case op <= api.OpName:
		return 0
	case op == api.OpNot:
		return 1
	}
	return 2
}

// Sort returns the sort of an attribute, or 0 for a word that is none.
func Sort(attribute string) int {
	switch attribute {
	case "kind", "units", "weekday", "minute", "total", "spent":
		return api.SortNumber
	case "zone", "band":
		return api.SortText
	case "family":
		return api.SortTruth
	}
	return 0
}
