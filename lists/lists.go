// Package lists contains what several layers do with lists of any elements.
package lists

import "slices"

// Filter returns the elements of a list that are to be kept, in their order.
func Filter[T any](list []T, keep func(x T) bool) []T {
	var kept []T
	for _, x := range list {
		if keep(x) {
			kept = append(kept, x)
		}
	}
	return kept
}

// Copied returns a copy of a list with a copy of each element, as copied makes it.
func Copied[T any](list []T, copied func(x T) T) []T {
	result := slices.Clone(list)
	for i, x := range result {
		result[i] = copied(x)
	}
	return result
}
