package samples

import (
	"math"
	"math/rand"
	"slices"
	"testing"

	"billing/api"
	"billing/customer"
)

// The limits and their neighbours, without repetitions.
func TestInstants(t *testing.T) {
	list := []api.Event{{At: 5}, {At: 5}, {At: 6}, {At: api.Forever - 1}}
	if got := Limits(list); !slices.Equal(got, []int{0, 5, 6, api.Forever - 1}) {
		t.Error(got)
	}
	if got := Moments(list); !slices.Equal(got, []int{math.MinInt, -1, 0, 1, 4, 5, 6, 7, api.Forever - 2, api.Forever - 1, api.Forever, math.MaxInt}) {
		t.Error(got)
	}
	if got := Limits(nil); !slices.Equal(got, []int{0}) {
		t.Error(got)
	}
	if got := Limits([]api.Event{{At: 0}}); !slices.Equal(got, []int{0}) {
		t.Error(got)
	}
}

// The lists remain valid if their last events are moved to the last instant, and some of them have such events.
func TestSomeEvents(t *testing.T) {
	rnd := rand.New(rand.NewSource(3))
	long := map[int]int{} // how many lists have so many events at the last instant
	for range 500 {
		list := SomeEvents(rnd.Intn, func(list []api.Event) bool {
			_, err := customer.Check(list)
			return err == api.OK
		})
		if _, err := customer.Check(list); err != api.OK {
			t.Fatal(list, err)
		}
		last := 0
		for _, e := range list {
			if e.At == api.Forever-1 {
				last++
			}
		}
		long[min(last, 2)]++
	}
	if long[0] < 300 || long[1] == 0 || long[2] < 50 {
		t.Error(long)
	}
}
