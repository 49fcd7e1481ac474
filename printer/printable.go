package printer

import (
	"billing/api"
	"billing/expressions"
	"billing/lexer"
	"billing/names"
	"billing/numbers"
)

const (
	maxNumber = 9999999999999999 // the greatest number of maxDigits digits
	maxDigits = 16
	allDays   = 1<<8 - 1 // every bit that Slot.Days may have
	dayEnd    = 24 * 60  // the minute of 24:00

	// maxLevels is twice as many levels of nesting as the document bounds: by ending there, isExpr also ends for an expression that contains itself.
	maxLevels = 1 << 17
)

// isTariff reports whether a tariff is printable.
func isTariff(t api.Tariff) bool {
	return isName(t.Name) && numbers.Within(t.From, 0, api.Forever-1) &&
		all(isZone, t.Zones...) && all(isBand, t.Bands...) && all(isRate, t.Rates...) && all(isDiscount, t.Discounts...)
}

// all reports whether all parts are printable.
func all[T any](isPrintable func(part T) bool, parts ...T) bool {
	for _, p := range parts {
		if !isPrintable(p) {
			return false
		}
	}
	return true
}

// isZone reports whether a zone is printable.
func isZone(z api.Zone) bool {
	return isName(z.Name) && len(z.Prefixes) > 0 && all(isPrefix, z.Prefixes...)
}

// isBand reports whether a band is printable.
func isBand(b api.Band) bool {
	return isName(b.Name) && all(isSlot, b.Slots...)
}

// isSlot reports whether a slot is printable.
func isSlot(s api.Slot) bool {
	return numbers.Within(s.Days, 1, allDays) && numbers.Within(s.From, 0, dayEnd-1) && numbers.Within(s.To, 0, dayEnd)
}

// isRate reports whether a rate is printable.
func isRate(r api.Rate) bool {
	return numbers.Within(r.Kind, api.KindVoice, api.KindContent) && isNameOrEmpty(r.Zone) && isNameOrEmpty(r.Band) &&
		isNumber(r.Setup) && len(r.Steps) > 0 && all(isStep, r.Steps...)
}

// isStep reports whether a step is printable.
func isStep(s api.Step) bool {
	return all(isNumber, s.Upto, s.Quantum, s.Price)
}

// isDiscount reports whether a discount is printable.
func isDiscount(d api.Discount) bool {
	return isName(d.Name) && isNumber(d.Points) && isExpr(d.When, 1)
}

// isExpr reports whether an expression at a level is printable.
func isExpr(e api.Expr, level int) bool {
	if level > maxLevels || len(e.Args) != expressions.Operands(e.Op) || !isNum(e) || !isText(e) {
		return false
	}
	return all(func(operand api.Expr) bool { return isExpr(operand, level+1) }, e.Args...)
}

// isNum reports whether an expression has a printable Num.
func isNum(e api.Expr) bool {
	if e.Op == api.OpNumber {
		return isNumber(e.Num)
	}
	return e.Num == 0
}

// isText reports whether an expression has a printable Text.
func isText(e api.Expr) bool {
	switch e.Op {
	case api.OpText:
		return lexer.Quote(e.Text) != ""
	case api.OpName:
		return expressions.Sort(e.Text) != 0 || isName(e.Text)
	}
	return e.Text == ""
}

// isNumber reports whether a number is printable.
func isNumber(n int) bool {
	return numbers.Within(n, 0, maxNumber)
}

// isName reports whether a name is printable.
func isName(s string) bool {
	return names.Valid(s) && !lexer.Keyword(s)
}

// isNameOrEmpty reports whether a name is printable, or is the empty one, which is written any.
func isNameOrEmpty(s string) bool {
	return s == "" || isName(s)
}

// isPrefix reports whether the prefix of a zone is printable.
func isPrefix(s string) bool {
	for _, c := range s {
		if c < '0' || c > '9' {
			return false
		}
	}
	return numbers.Within(len(s), 1, maxDigits)
}
