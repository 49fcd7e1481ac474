// Package digits is layer 2: see shared/doc/02-digits.md.
package digits

import (
	"cmp"
	"strings"

	"billing/api"
)

// filler stands in the last low four bits of the packed form of a number with an odd number of digits.
const filler = 15

// sized is a string with the property by which it is compared first.
type sized struct {
	length int
	text   string
}

// Valid reports whether s is a number.
func Valid(s string) bool {
	if len(s) < 1 || len(s) > api.MaxDigits {
		return false
	}
	for i := range len(s) {
		if s[i] < '0' || s[i] > '9' {
			return false
		}
	}
	return true
}

// HasPrefix reports whether s begins with p.
func HasPrefix(s, p string) bool {
	return strings.HasPrefix(s, p)
}

// Longest returns the position of the longest prefix of s, or -1.
func Longest(s string, prefixes []string) int {
	position, length := -1, -1
	for i, p := range prefixes {
		if len(p) > length && HasPrefix(s, p) {
			position, length = i, len(p)
		}
	}
	return position
}

// Compare orders numbers.
func Compare(a, b string) int {
	x, y := sized{len(a), a}, sized{len(b), b}
	if x == y {
		return 0
	}
	if x.length != y.length {
		return cmp.Compare(x.length, y.length)
	}
	return cmp.Compare(x.text, y.text)
}

// Normal returns the international form of a dialled number.
func Normal(s, country string) (string, api.Errno) {
	if !Valid(country) {
		return "", api.ErrNumber
	}
	number := international(s, country)
	if !Valid(number) {
		return "", api.ErrNumber
	}
	return number, api.OK
}

// international applies the first rule that fits the beginning of s.
func international(s, country string) string {
	if rest, found := strings.CutPrefix(s, "+"); found {
		return rest
	}
	if rest, found := strings.CutPrefix(s, "00"); found {
		return rest
	}
	if rest, found := strings.CutPrefix(s, "0"); found {
		return country + rest
	}
	return s
}

// Pack returns the packed decimal digits of a number.
func Pack(s string) ([]byte, api.Errno) {
	if !Valid(s) {
		return nil, api.ErrNumber
	}
	packed := make([]byte, (len(s)+1)/2)
	for i := range packed {
		low := byte(filler)
		if 2*i+1 < len(s) {
			low = s[2*i+1] - '0'
		}
		packed[i] = (s[2*i]-'0')<<4 | low
	}
	return packed, api.OK
}

// Unpack returns the number of packed decimal digits.
func Unpack(b []byte) (string, api.Errno) {
	if len(b) > (api.MaxDigits+1)/2 {
		return "", api.ErrNumber
	}
	var text []byte
	for i, packed := range b {
		// Four bits that are no digit become a byte behind '9', which Valid refuses.
		text = append(text, '0'+packed>>4)
		if low := packed & 15; low != filler || i < len(b)-1 {
			text = append(text, '0'+low)
		}
	}
	if !Valid(string(text)) {
		return "", api.ErrNumber
	}
	return string(text), api.OK
}

// Mask replaces all digits but the first ones.
func Mask(s string, keep int) string {
	kept := min(max(keep, 0), len(s))
	return s[:kept] + strings.Repeat("x", len(s)-kept)
}
