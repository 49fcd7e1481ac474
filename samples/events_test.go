package samples

import (
	"math/rand"
	"slices"
	"testing"

	"billing/api"
	"billing/customer"
)

// The lists are of use for tests: they are valid, and contain all kinds of events, several of them at one instant or later than their predecessors.
func TestEvents(t *testing.T) {
	rnd := rand.New(rand.NewSource(1))
	kinds := map[int]int{}
	same, later := 0, 0
	for range 500 {
		list := Events(rnd.Intn, 200, func(list []api.Event) bool {
			_, err := customer.Check(list)
			return err == api.OK
		})
		if _, err := customer.Check(list); err != api.OK {
			t.Fatal(list, err)
		}
		for i, e := range list {
			kinds[e.Kind]++
			if i > 0 && e.At == list[i-1].At {
				same++
			} else if i > 0 {
				later++
			}
		}
	}
	for kind := api.EventOpen; kind < api.Events; kind++ {
		if kinds[kind] < 100 {
			t.Error("the kind", kind, "only", kinds[kind])
		}
	}
	if same < 5000 || later < 3000 {
		t.Error(same, later)
	}
}

// What is not accepted leaves no trace.
func TestEventsRefused(t *testing.T) {
	rnd := rand.New(rand.NewSource(2))
	list := Events(rnd.Intn, 100, func(list []api.Event) bool {
		return len(list) < 10 && list[len(list)-1].Kind != api.EventNumber
	})
	if len(list) != 9 || slices.ContainsFunc(list, func(e api.Event) bool { return e.Kind == api.EventNumber }) {
		t.Error(list)
	}
	for i := range list[1:] {
		if list[i+1].At < list[i].At {
			t.Error(list)
		}
	}
}
