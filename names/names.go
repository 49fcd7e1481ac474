// Package names says which strings are names in the sense of shared/DOC.md, Terms. Several layers need this.
package names

import "billing/api"

// Valid reports whether s is a name.
func Valid(s string) bool {
	if s == "" || len(s) > api.MaxName || !isLetter(rune(s[0])) {
		return false
	}
	for _, c := range s {
		if !isLetter(c) && c != '-' && (c < '0' || c > '9') {
			return false
		}
	}
	return true
}

// isLetter reports whether c is a lower-case letter.
func isLetter(c rune) bool {
	return 'a' <= c && c <= 'z'
}
