package samples

import (
	"math"
	"slices"

	"billing/api"
)

// VersionNames returns names for products and tariffs, and texts that are none, in ascending order.
func VersionNames() []string {
	return []string{"", "A", "a", "a-1", "a1", "aa", "flat", "pack", "\xff"}
}

// Instant returns an instant, most of them small.
func Instant(choose func(n int) int) int {
	return []int{choose(20), choose(20), choose(20), 0, api.Forever - 1, api.Forever - 2}[choose(6)]
}

// Integer returns any integer, most of them small.
func Integer(choose func(n int) int) int {
	return []int{choose(20), choose(20), -1 - choose(5), 0, api.Forever - 1, api.Forever, math.MinInt, math.MaxInt}[choose(8)]
}

// Times returns few integers, ascending, each of them made by one: Instant, or Integer.
func Times(choose func(n int) int, one func(choose func(n int) int) int) []int {
	var times []int
	for range choose(6) - 1 {
		times = append(times, one(choose))
	}
	slices.Sort(times)
	return slices.Compact(times)
}

// Around returns integers with their neighbours, and the limits of instants and integers, ascending.
func Around(times []int) []int {
	all := []int{math.MinInt, -1, 0, api.Forever - 2, api.Forever - 1, api.Forever, math.MaxInt}
	for _, n := range times {
		all = append(all, n-1, n, n+1) // beyond the least or the greatest integer follows the other one, which is there, too
	}
	slices.Sort(all)
	return slices.Compact(all)
}
