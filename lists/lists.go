// Package lists contains what several layers do with lists of any elements.
package lists

// Filter returns the elements of a list that are to be kept, in their order.
func Filter[T any](list []T, keep func(x T) bool) []T {
	var kept []T
	for _, x := range list {
		if keep(x) {
			kept = append(kept, x)
		}
	}
	return kept
}
