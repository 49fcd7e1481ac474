package samples

import (
	"slices"
	"testing"
)

// A change of the list or of its spare capacity is seen, and nothing else.
func TestSpare(t *testing.T) {
	for _, original := range [][]int{nil, {}, {1}, {1, 2, 3}} {
		list := Spare(original, 9)
		if !slices.Equal(list, original) || !Unchanged(list, original, 9) {
			t.Error(original, list)
		}
		for i := range len(list) + 2 {
			list = Spare(original, 9)
			list[:cap(list)][i]++
			if Unchanged(list, original, 9) {
				t.Error("the change at", i, "of", original)
			}
		}
	}
	original := make([]int, 2, 9)
	Spare(original, 9)
	if original[:3][2] != 0 {
		t.Error("the original has changed")
	}
}
