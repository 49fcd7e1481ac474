package samples

import (
	"slices"
	"testing"
)

// All texts of up to two of two words, and all of up to three of ten.
func TestEachText(t *testing.T) {
	var list []string
	EachText([]string{"a", "b"}, 2, func(text string) { list = append(list, text) })
	if want := []string{"", "a", "b", "a a", "b a", "a b", "b b"}; !slices.Equal(list, want) {
		t.Errorf("%q", list)
	}
	found := map[string]bool{}
	calls := 0
	EachText([]string{"0", "1", "2", "3", "4", "5", "6", "7", "8", "9"}, 3, func(text string) { found[text] = true; calls++ })
	if len(found) != 1111 || calls != 1111 {
		t.Error(len(found), calls)
	}
}
