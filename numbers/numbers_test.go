package numbers

import (
	"math"
	"testing"
)

// All small integers and limits, and the greatest and least ones.
func TestWithin(t *testing.T) {
	some := []int{math.MinInt, math.MinInt + 1, -2, -1, 0, 1, 2, math.MaxInt - 1, math.MaxInt}
	for _, least := range some {
		for _, most := range some {
			for _, n := range some {
				if Within(n, least, most) != (max(n, least) == n && min(n, most) == n) {
					t.Error(n, least, most)
				}
			}
		}
	}
}
