package bands

import (
	"math"
	"slices"
	"strconv"
	"testing"

	"billing/api"
)

// allDay is a slot that contains every instant.
var allDay = api.Slot{Days: 255, From: 0, To: 1440}

// named returns n bands with different names, all but the last one with a slot.
func named(n int) []api.Band {
	var list []api.Band
	for i := range n {
		list = append(list, api.Band{Name: "band-" + strconv.Itoa(i), Slots: []api.Slot{allDay}})
	}
	list[n-1].Slots = nil
	return list
}

// P5.1: valid lists, the shortest and the longest among them.
func TestCheck(t *testing.T) {
	lists := [][]api.Band{
		week(), named(1), named(2), named(api.MaxList),
		{{Name: "free"}},
		{{Name: "free", Slots: []api.Slot{}}},
		{{Name: "abcdefghijklmnopqrstuvwx"}},
		{{Name: "a", Slots: slices.Repeat([]api.Slot{allDay}, api.MaxList)}, {Name: "b"}},
	}
	for _, s := range []api.Slot{{Days: 1, From: 0, To: 1}, {Days: 128, From: 1439, To: 1440}, allDay, {Days: 64, From: 719, To: 721}} {
		lists = append(lists, []api.Band{{Name: "a", Slots: []api.Slot{allDay, s}}, {Name: "b"}})
	}
	for _, list := range lists {
		if err := Check(list); err != api.OK {
			t.Error(list, err)
		}
	}
}

// P5.1: one error.
func TestCheckErrors(t *testing.T) {
	slots := week()[0].Slots
	cases := []struct {
		list []api.Band
		want api.Errno
	}{
		{nil, api.ErrInvalid},
		{[]api.Band{}, api.ErrInvalid},
		{[]api.Band{week()[1], week()[0]}, api.ErrInvalid},
		{named(api.MaxList + 1), api.ErrTooLong},
		{named(1000), api.ErrTooLong},
		{[]api.Band{{}}, api.ErrInvalid},
		{[]api.Band{{Name: "1a"}}, api.ErrInvalid},
		{[]api.Band{{Name: "abcdefghijklmnopqrstuvwxy"}}, api.ErrInvalid},
		{[]api.Band{{Name: "A", Slots: slots}, {Name: "b"}}, api.ErrInvalid},
		{[]api.Band{{Name: "a", Slots: slots}, {Name: "a"}}, api.ErrExists},
		{[]api.Band{{Name: "a", Slots: slots}, {Name: "b", Slots: slots}, {Name: "a", Slots: slots}, {Name: "c"}}, api.ErrExists},
		{[]api.Band{{Name: "a", Slots: slots}}, api.ErrInvalid},
		{[]api.Band{{Name: "a", Slots: slots}, {Name: "b", Slots: slots}}, api.ErrInvalid},
		{[]api.Band{{Name: "a", Slots: slots}, {Name: "b"}, {Name: "c"}}, api.ErrInvalid},
		{[]api.Band{{Name: "a", Slots: slices.Repeat(slots, api.MaxList+1)}, {Name: "b"}}, api.ErrTooLong},
	}
	for _, c := range cases {
		if got := Check(c.list); got != c.want {
			t.Error(c, got)
		}
	}
}

// P5.1: slots that are not in range, at the first and at a later position.
func TestCheckSlots(t *testing.T) {
	for _, s := range []api.Slot{
		{}, {Days: 0, From: 0, To: 1440}, {Days: 256, From: 0, To: 1440}, {Days: -1, From: 0, To: 1440}, {Days: 257, From: 0, To: 1440},
		{Days: 1, From: 0, To: 0}, {Days: 1, From: 5, To: 5}, {Days: 1, From: 6, To: 5}, {Days: 1, From: -1, To: 5}, {Days: 1, From: -5, To: -1},
		{Days: 1, From: 0, To: 1441}, {Days: 1, From: 1440, To: 1440}, {Days: 1, From: 1440, To: 1441}, {Days: 1, From: 1441, To: 1440},
		{Days: math.MinInt, From: 0, To: 1}, {Days: math.MaxInt, From: 0, To: 1}, {Days: 1, From: math.MinInt, To: math.MaxInt}, {Days: 1, From: 0, To: math.MaxInt}, {Days: 1, From: math.MinInt, To: 5},
	} {
		for _, slots := range [][]api.Slot{{s}, {allDay, allDay, s, allDay}} {
			if got := Check([]api.Band{{Name: "a", Slots: slots}, {Name: "b"}}); got != api.ErrRange {
				t.Error(slots, got)
			}
			if got := Check([]api.Band{{Name: "a", Slots: []api.Slot{allDay}}, {Name: "b", Slots: slots}, {Name: "c"}}); got != api.ErrRange {
				t.Error(slots, got)
			}
		}
	}
}

// P5.1: several errors, of which the one that is named first counts, for the first band that has one.
func TestCheckOrder(t *testing.T) {
	slots, wrong := week()[0].Slots, []api.Slot{{Days: 0, From: 0, To: 1}}
	long, longAndWrong := slices.Repeat(slots, api.MaxList+1), slices.Repeat(wrong, api.MaxList+1)
	cases := []struct {
		list []api.Band
		want api.Errno
	}{
		{slices.Repeat([]api.Band{{Name: "A", Slots: longAndWrong}}, api.MaxList+1), api.ErrTooLong},
		{slices.Repeat([]api.Band{{Name: "A", Slots: wrong}}, 3), api.ErrInvalid},
		{[]api.Band{{Name: "A", Slots: long}, {Name: "b"}}, api.ErrInvalid},
		{[]api.Band{{Name: "a", Slots: slots}, {Name: "a", Slots: longAndWrong}, {Name: "b"}}, api.ErrExists},
		{[]api.Band{{Name: "a", Slots: slots}, {Name: "a"}, {Name: "b"}}, api.ErrExists},
		{[]api.Band{{Name: "a", Slots: slots}, {Name: "a", Slots: slots}}, api.ErrExists},
		{[]api.Band{{Name: "a", Slots: longAndWrong}, {Name: "b"}}, api.ErrTooLong},
		{[]api.Band{{Name: "a", Slots: slots}, {Name: "b", Slots: long}}, api.ErrInvalid},
		{[]api.Band{{Name: "a", Slots: slots}, {Name: "b", Slots: wrong}}, api.ErrInvalid},
		// An earlier band counts more than an error that is named first.
		{[]api.Band{{Name: "a", Slots: wrong}, {Name: "A"}}, api.ErrRange},
		{[]api.Band{{Name: "a", Slots: long}, {Name: "b", Slots: wrong}, {Name: "a"}}, api.ErrTooLong},
		{[]api.Band{{Name: "a", Slots: wrong}, {Name: "a", Slots: long}, {Name: "b"}}, api.ErrRange},
		{[]api.Band{{Name: "a", Slots: slots}, {Name: "b"}, {Name: "a"}}, api.ErrInvalid},
		{[]api.Band{{Name: "a", Slots: slots}, {Name: "a", Slots: slots}, {Name: "B"}}, api.ErrExists},
	}
	for _, c := range cases {
		if got := Check(c.list); got != c.want {
			t.Error(c, got)
		}
	}
}
