package amount

import (
	"strings"

	"billing/api"
)

const (
	places   = 19 // the digits of the least int, which has the most
	decimals = 4  // the digits behind the point
)

// powers are the powers of ten with which the digits of an int count.
var powers = [places]uint64{
	1, 10, 100, 1000, 10000, 100000, 1000000, 10000000, 100000000, 1000000000,
	10000000000, 100000000000, 1000000000000, 10000000000000, 100000000000000,
	1000000000000000, 10000000000000000, 100000000000000000, 1000000000000000000,
}

// Text returns the text of an amount.
func Text(a int) string {
	var digits [places]byte
	rest := magnitude(a)
	for i := range digits {
		digits[i] = '0' + byte(rest/powers[places-1-i]%10)
	}
	const point = places - decimals
	first := 0
	for first < point-1 && digits[first] == '0' {
		first++
	}
	text := string(digits[first:point]) + "." + string(digits[point:])
	if a < 0 {
		return "-" + text
	}
	return text
}

// Parse returns the amount that a text denotes.
func Parse(s string) (int, api.Errno) {
	positive := strings.TrimPrefix(s, "-")
	quotient, fraction, _ := strings.Cut(positive, ".")
	if !isQuotient(quotient) || !isFraction(fraction) || s == "-0.0000" {
		return 0, api.ErrSyntax
	}
	digits := quotient + fraction
	if len(digits) > places {
		return 0, api.ErrRange // a text of that length has no leading zero
	}
	value := uint64(0)
	for i := range len(digits) {
		value += uint64(digits[i]-'0') * powers[len(digits)-1-i]
	}
	if value > api.MaxAmount {
		return 0, api.ErrRange
	}
	if positive != s {
		return -int(value), api.OK
	}
	return int(value), api.OK
}

// isQuotient reports whether s may stand in front of the point.
func isQuotient(s string) bool {
	return s == "0" || allDigits(s) && s != "" && s[0] != '0'
}

// isFraction reports whether s may stand behind the point.
func isFraction(s string) bool {
	return len(s) == decimals && allDigits(s)
}

// allDigits reports whether s has no byte but decimal digits.
func allDigits(s string) bool {
	for i := range len(s) {
		if s[i] < '0' || s[i] > '9' {
			return false
		}
	}
	return true
}
