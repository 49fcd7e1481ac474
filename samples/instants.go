package samples

import (
	"slices"

	"billing/api"
)

// Limits returns 0 and the instants of the events of a list, ascending: between two of them nothing changes.
func Limits(list []api.Event) []int {
	times := []int{0}
	for _, e := range list {
		times = append(times, e.At)
	}
	slices.Sort(times)
	return slices.Compact(times)
}

// Moments returns the limits of a list with their neighbours, and integers that are no instants, ascending.
func Moments(list []api.Event) []int {
	return Around(Limits(list))
}
