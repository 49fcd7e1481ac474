// Package numbers compares integers with their limits. Several layers need this.
package numbers

// Within reports whether n is from least to most.
func Within(n, least, most int) bool {
	return least <= n && n <= most
}
