// Package amount is layer 1: see shared/doc/01-amount.md.
package amount

import (
	"cmp"
	"math/bits"
	"slices"

	"billing/api"
)

// Valid reports whether a is an amount.
func Valid(a int) bool {
	return -api.MaxAmount <= a && a <= api.MaxAmount
}

// Add returns the sum of two amounts.
func Add(a, b int) (int, api.Errno) {
	if !Valid(a) || !Valid(b) || !Valid(a+b) {
		return 0, api.ErrRange
	}
	return a + b, api.OK
}

// Sum returns the sum of a list of amounts.
func Sum(list []int) (int, api.Errno) {
	sum, err := total(list)
	if err != api.OK {
		return 0, err
	}
	if !Valid(sum) {
		return 0, api.ErrRange
	}
	return sum, api.OK
}

// total returns the sum of a list of amounts, which need not be an amount itself: MaxRecords amounts cannot overflow an int.
func total(list []int) (int, api.Errno) {
	if len(list) > api.MaxRecords {
		return 0, api.ErrTooLong
	}
	sum := 0
	for _, a := range list {
		if !Valid(a) {
			return 0, api.ErrRange
		}
		sum += a
	}
	return sum, api.OK
}

// Scale returns a * n / d, rounded.
func Scale(a, n, d int) (int, api.Errno) {
	if !Valid(a) || !validUnits(n) || !validUnits(d) || d == 0 {
		return 0, api.ErrRange
	}
	divisor := uint64(d)
	high, low := bits.Mul64(magnitude(a), uint64(n))
	if high >= divisor {
		return 0, api.ErrRange // Div64 would panic: the quotient has more than 64 bits
	}
	quotient, rest := bits.Div64(high, low, divisor)
	if quotient > api.MaxAmount {
		return 0, api.ErrRange // before rounding, which could wrap around
	}
	if 2*rest >= divisor {
		quotient++
	}
	if quotient > api.MaxAmount {
		return 0, api.ErrRange
	}
	if a < 0 {
		return -int(quotient), api.OK
	}
	return int(quotient), api.OK
}

// validUnits reports whether n is a number of units.
func validUnits(n int) bool {
	return 0 <= n && n <= api.MaxUnits
}

// magnitude returns the absolute value of a, also of the least int.
func magnitude(a int) uint64 {
	if a < 0 {
		return -uint64(a)
	}
	return uint64(a)
}

// Percent returns points hundredths of a percent of a, rounded.
func Percent(a, points int) (int, api.Errno) {
	const whole = 10000
	if points < 0 || points > whole {
		return 0, api.ErrRange
	}
	return Scale(a, points, whole)
}

// Rounded returns an amount in minor units.
func Rounded(a int) int {
	quotient, rest := a/api.Minor, a%api.Minor
	switch {
	case rest >= api.Minor/2:
		return quotient + 1
	case rest <= -api.Minor/2:
		return quotient - 1
	}
	return quotient
}

// Split divides an amount exactly in proportion to weights.
func Split(a int, weights []int) ([]int, api.Errno) {
	sum, err := totalWeight(a, weights)
	if err != api.OK {
		return nil, err
	}
	left := magnitude(a)
	parts := make([]int, len(weights))
	rests := make([]int, len(weights))
	for i, w := range weights {
		// No weight exceeds the sum, so that the quotient fits.
		high, low := bits.Mul64(magnitude(a), uint64(w))
		part, rest := bits.Div64(high, low, sum)
		parts[i], rests[i] = int(part), int(rest)
		left -= part
	}
	addOnes(parts, rests, int(left))
	if a < 0 {
		for i := range parts {
			parts[i] = -parts[i]
		}
	}
	return parts, api.OK
}

// totalWeight checks the arguments of Split and returns the sum of the weights.
func totalWeight(a int, weights []int) (uint64, api.Errno) {
	if len(weights) > api.MaxList {
		return 0, api.ErrTooLong
	}
	if !Valid(a) {
		return 0, api.ErrRange
	}
	sum := 0
	for _, w := range weights {
		if !validUnits(w) {
			return 0, api.ErrRange
		}
		sum += w
	}
	if sum == 0 {
		return 0, api.ErrInvalid
	}
	return uint64(sum), api.OK
}

// Round converts amounts to minor units that add up to the rounded sum.
func Round(list []int) []int {
	sum, err := total(list)
	if err != api.OK {
		return nil
	}
	missing := Rounded(sum)
	parts := make([]int, len(list))
	rests := make([]int, len(list))
	for i, a := range list {
		parts[i], rests[i] = floor(a)
		missing -= parts[i]
	}
	addOnes(parts, rests, missing)
	return parts
}

// floor returns the greatest number of minor units that is at most a, and what a has above it.
func floor(a int) (quotient, rest int) {
	quotient, rest = a/api.Minor, a%api.Minor
	if rest < 0 {
		return quotient - 1, rest + api.Minor
	}
	return quotient, rest
}

// addOnes adds ones to as many parts as are missing, those with the greatest rests; the earlier ones of several equal rests.
// The callers' rests add up to so much that no part with the rest 0 is reached.
func addOnes(parts, rests []int, missing int) {
	positions := make([]int, len(parts))
	for i := range positions {
		positions[i] = i
	}
	slices.SortStableFunc(positions, func(i, j int) int {
		return cmp.Compare(rests[j], rests[i])
	})
	for _, i := range positions[:missing] {
		parts[i]++
	}
}
