package samples

import "slices"

// Spare returns a copy of a list with spare capacity, which marks fill.
func Spare[T any](list []T, mark T) []T {
	return append(slices.Clone(list), mark, mark)[:len(list)]
}

// Unchanged reports whether a list that Spare has returned is as the original, with its spare capacity as it was.
func Unchanged[T comparable](list, original []T, mark T) bool {
	return slices.Equal(list, original) && slices.Equal(list[len(list):len(list)+2], []T{mark, mark})
}
