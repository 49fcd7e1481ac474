package lists

import (
	"slices"
	"testing"
)

// Filter keeps what is wanted, in its order, and asks once about each element.
func TestFilter(t *testing.T) {
	for _, x := range []struct{ list, want []int }{
		{nil, nil}, {[]int{}, nil}, {[]int{1}, nil}, {[]int{2}, []int{2}},
		{[]int{4, 1, 2, 2, 3, 5, 0}, []int{4, 2, 2, 0}}, {[]int{1, 3}, nil}, {[]int{8, 6}, []int{8, 6}},
	} {
		var asked []int
		got := Filter(x.list, func(n int) bool {
			asked = append(asked, n)
			return n%2 == 0
		})
		if !slices.Equal(got, x.want) || !slices.Equal(asked, x.list) {
			t.Error(x.list, got, asked)
		}
	}
}

// The list is left as it is, and the result is new memory.
func TestFilterMemory(t *testing.T) {
	list := []int{2, 4, 1, 6, 9}
	got := Filter(list[:4], func(n int) bool { return n != 1 })
	clear(got[:cap(got)])
	if !slices.Equal(list, []int{2, 4, 1, 6, 9}) {
		t.Error(list)
	}
}

// Copied copies each element once, in their order, and leaves the list as it is.
func TestCopied(t *testing.T) {
	for _, list := range [][]int{nil, {}, {5}, {3, 1, 2, 1}} {
		given := slices.Clone(list)
		var asked, want []int
		for _, n := range list {
			want = append(want, 10*n)
		}
		got := Copied(given, func(n int) int {
			asked = append(asked, n)
			return 10 * n
		})
		if !slices.Equal(got, want) || !slices.Equal(asked, list) || (got == nil) != (list == nil) {
			t.Error(list, got, asked)
		}
		clear(got[:cap(got)])
		if !slices.Equal(given, list) {
			t.Error("the list has changed:", given)
		}
	}
}
