package samples

import (
	"math"
	"math/rand"
	"slices"
	"testing"

	"billing/api"
	"billing/names"
)

// The names are ascending, and some texts are none.
func TestVersionNames(t *testing.T) {
	list := VersionNames()
	valid := 0
	for i, s := range list {
		if i > 0 && list[i-1] >= s {
			t.Errorf("%q", s)
		}
		if names.Valid(s) {
			valid++
		}
	}
	if valid < 5 || len(list)-valid < 2 {
		t.Error(valid, "of", len(list))
	}
}

// The instants are instants, and the integers are of all kinds.
func TestIntegers(t *testing.T) {
	rnd := rand.New(rand.NewSource(6))
	found := map[int]bool{}
	for range 1000 {
		n := Instant(rnd.Intn)
		if n < 0 || n >= api.Forever {
			t.Fatal(n)
		}
		found[n], found[Integer(rnd.Intn)] = true, true
	}
	for _, n := range []int{math.MinInt, -5, -1, 0, 1, 19, api.Forever - 2, api.Forever - 1, api.Forever, math.MaxInt} {
		if !found[n] {
			t.Error(n, "is missing")
		}
	}
}

// The times are ascending, and there may be none.
func TestTimes(t *testing.T) {
	rnd := rand.New(rand.NewSource(7))
	long := map[int]int{}
	for range 1000 {
		times := Times(rnd.Intn, Integer)
		for i := 1; i < len(times); i++ {
			if times[i-1] >= times[i] {
				t.Fatal(times)
			}
		}
		long[len(times)]++
	}
	if long[0] < 100 || long[1] < 100 || long[2] < 100 || long[3] < 100 || long[4] < 10 {
		t.Error(long)
	}
}

// The neighbours of integers, also of the least and the greatest one.
func TestAround(t *testing.T) {
	for i, x := range []struct{ times, want []int }{
		{nil, []int{math.MinInt, -1, 0, api.Forever - 2, api.Forever - 1, api.Forever, math.MaxInt}},
		{[]int{9, 7, 9}, []int{math.MinInt, -1, 0, 6, 7, 8, 9, 10, api.Forever - 2, api.Forever - 1, api.Forever, math.MaxInt}},
		{[]int{math.MinInt, math.MaxInt}, []int{math.MinInt, math.MinInt + 1, -1, 0, api.Forever - 2, api.Forever - 1, api.Forever, math.MaxInt - 1, math.MaxInt}},
	} {
		if got := Around(x.times); !slices.Equal(got, x.want) {
			t.Error("case", i, got)
		}
	}
}
