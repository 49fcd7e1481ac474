package subscribe

import (
	"math"
	"math/rand"
	"reflect"
	"slices"
	"strconv"
	"testing"

	"billing/api"
	"billing/customer"
	"billing/samples"
)

// valid reports whether a list of events is valid.
func valid(list []api.Event) bool {
	_, err := customer.Check(list)
	return err == api.OK
}

// mark fills the spare capacity of arguments.
var mark = api.Event{At: -7, Number: "spare"}

// stays reports whether two states of a subscription are the same, as far as spells are concerned.
func stays(a, b api.Sub) bool {
	return a.Plan == b.Plan && slices.Equal(a.Products, b.Products) && a.Suspended == b.Suspended && a.Family == b.Family
}

// state returns what a spell says of the subscription.
func state(s api.Spell) api.Sub {
	return api.Sub{Plan: s.Plan, Products: s.Products, Suspended: s.Suspended, Family: s.Family}
}

// stretches returns the maximal periods at all of whose instants the subscription exists and is as wanted, and is the same where same says so: the definition.
func stretches(list []api.Event, sub int, wanted func(s api.Sub) bool, same func(a, b api.Sub) bool) []api.Period {
	var periods []api.Period
	var before api.Sub
	times := append(samples.Limits(list), api.Forever)
	for i, from := range times[:len(times)-1] {
		now, exists := customer.Sub(list, sub, from)
		if !exists || !wanted(now) {
			continue
		}
		if n := len(periods); n > 0 && periods[n-1].To == from && same(before, now) {
			periods[n-1].To = times[i+1]
		} else {
			periods = append(periods, api.Period{From: from, To: times[i+1]})
		}
		before = now
	}
	return periods
}

// anyState and anyStates leave out a condition of stretches.
func anyState(api.Sub) bool       { return true }
func anyStates(_, _ api.Sub) bool { return true }

// modelSpells returns the spells of a subscription.
func modelSpells(list []api.Event, sub int) []api.Spell {
	var spells []api.Spell
	for _, p := range stretches(list, sub, anyState, stays) {
		s, _ := customer.Sub(list, sub, p.From)
		spells = append(spells, api.Spell{Period: p, Plan: s.Plan, Products: s.Products, Suspended: s.Suspended, Family: s.Family})
	}
	return spells
}

// equal reports whether two spells are equal.
func equal(a, b api.Spell) bool {
	products := slices.Equal(a.Products, b.Products)
	a.Products, b.Products = nil, nil
	return products && reflect.DeepEqual(a, b)
}

// overwrite changes the products of a spell, with their spare capacity.
func overwrite(s api.Spell) {
	for i := range s.Products[:cap(s.Products)] {
		s.Products[:cap(s.Products)][i] = "overwritten"
	}
}

// quiet returns how many instants of events about a subscription, but for the first and the last one, leave its spell as it is.
func quiet(list []api.Event, sub int, spells []api.Spell) int {
	var times []int
	for _, e := range list {
		if e.Sub == sub {
			times = append(times, e.At)
		}
	}
	count := 0
	for _, at := range slices.Compact(times) {
		if slices.ContainsFunc(spells, func(s api.Spell) bool { return s.Period.From < at && at < s.Period.To }) {
			count++
		}
	}
	return count
}

// P20.1, with R5.
func TestSpells(t *testing.T) {
	rnd := rand.New(rand.NewSource(20))
	endless, ended, never, unchanged := 0, 0, 0, 0
	products, long := map[int]int{}, map[int]int{}
	for range 3000 {
		list := samples.SomeEvents(rnd.Intn, valid)
		given := samples.Spare(list, mark)
		for sub := -1; sub <= 6; sub++ {
			spells, want := Spells(given, sub), modelSpells(list, sub)
			if !slices.EqualFunc(spells, want, equal) {
				t.Fatalf("Spells(%+v, %d) = %+v, not %+v", list, sub, spells, want)
			}
			unchanged += quiet(list, sub, spells)
			long[min(len(spells), 4)]++
			switch {
			case len(spells) == 0:
				never++
			case spells[len(spells)-1].Period.To == api.Forever:
				endless++
			default:
				ended++
			}
			// One after the other, so that a list that is shared with a later one is seen.
			for i, s := range spells {
				if !equal(s, want[i]) || !slices.IsSorted(s.Products) {
					t.Fatalf("the spell %+v was %+v", s, want[i])
				}
				products[len(s.Products)]++
				overwrite(s)
			}
			clear(spells[:cap(spells)])
		}
		if !samples.Unchanged(given, list, mark) {
			t.Fatal("the argument has changed")
		}
	}
	if endless < 3000 || ended < 300 || never < 6000 || unchanged < 2000 || products[2] < 500 || products[3] < 20 || long[1] < 500 || long[4] < 500 {
		t.Error(endless, ended, never, unchanged, products, long)
	}
}

// P20.2 and P20.5, with R3 and R5: the spells agree with the state at every instant, and with nothing else.
func TestAt(t *testing.T) {
	rnd := rand.New(rand.NewSource(21))
	found := map[bool]int{}
	for range 300 {
		list := samples.SomeEvents(rnd.Intn, valid)
		given := samples.Spare(list, mark)
		for sub := -1; sub <= 6; sub++ {
			spells := Spells(list, sub)
			for _, at := range samples.Moments(list) {
				want, exists := customer.Sub(list, sub, at)
				exists = exists && at < api.Forever
				s, has := At(given, sub, at)
				i := slices.IndexFunc(spells, func(s api.Spell) bool { return s.Period.From <= at && at < s.Period.To })
				if has != exists || (i >= 0) != exists || exists && (!equal(s, spells[i]) || !stays(state(s), want)) || !exists && !reflect.DeepEqual(s, api.Spell{}) {
					t.Fatalf("At(%+v, %d, %d) = %+v, %v", list, sub, at, s, has)
				}
				overwrite(s)
				found[has]++
			}
		}
		if !samples.Unchanged(given, list, mark) {
			t.Fatal("the argument has changed")
		}
	}
	if found[true] < 5000 || found[false] < 5000 {
		t.Error(found)
	}
}

// P20.5: the spells follow one another from the beginning to the end of the subscription, and neighbours differ.
func TestSpellsWithoutGaps(t *testing.T) {
	rnd := rand.New(rand.NewSource(22))
	neighbours := 0
	for range 2000 {
		list := samples.SomeEvents(rnd.Intn, valid)
		for sub := 1; sub <= 5; sub++ {
			since, end := 0, 0
			for _, e := range list {
				switch {
				case e.Sub == sub && e.Kind == api.EventAdd:
					since, end = e.At, api.Forever
				case e.Sub == sub && e.Kind == api.EventEnd:
					end = e.At
				}
			}
			spells := Spells(list, sub)
			next := since
			for i, s := range spells {
				if s.Period.From != next || s.Period.To <= next {
					t.Fatalf("Spells(%+v, %d) = %+v", list, sub, spells)
				}
				if i > 0 && stays(state(s), state(spells[i-1])) {
					t.Fatalf("Spells(%+v, %d) = %+v: neighbours are the same", list, sub, spells)
				}
				next = s.Period.To
			}
			if next != end {
				t.Fatalf("Spells(%+v, %d) = %+v: until %d, not %d", list, sub, spells, next, end)
			}
			neighbours += max(len(spells)-1, 0)
		}
	}
	if neighbours < 5000 {
		t.Error(neighbours)
	}
}

// P20.3, with R5.
func TestPeriods(t *testing.T) {
	rnd := rand.New(rand.NewSource(23))
	active, served := map[int]int{}, map[int]int{} // how many results have so many periods
	for range 2000 {
		list := samples.SomeEvents(rnd.Intn, valid)
		given := samples.Spare(list, mark)
		for sub := -1; sub <= 6; sub++ {
			for _, product := range []string{"flat", "a-2", "mail", "basic", "fla", ""} {
				has := func(s api.Sub) bool { return slices.Contains(s.Products, product) }
				got, want := Active(given, sub, product), stretches(list, sub, has, anyStates)
				if !slices.Equal(got, want) {
					t.Fatalf("Active(%+v, %d, %q) = %v, not %v", list, sub, product, got, want)
				}
				active[len(got)]++
				clear(got[:cap(got)])
			}
			free := func(s api.Sub) bool { return !s.Suspended }
			got, want := Served(given, sub), stretches(list, sub, free, anyStates)
			if !slices.Equal(got, want) {
				t.Fatalf("Served(%+v, %d) = %v, not %v", list, sub, got, want)
			}
			served[len(got)]++
			clear(got[:cap(got)])
		}
		if !samples.Unchanged(given, list, mark) {
			t.Fatal("the argument has changed")
		}
	}
	if active[0] < 5000 || active[1] < 2000 || active[2] < 100 || served[0] < 3000 || served[1] < 2000 || served[2] < 500 {
		t.Error(active, served)
	}
}

// P20.4, with R5.
func TestFamily(t *testing.T) {
	rnd := rand.New(rand.NewSource(24))
	long := map[int]int{} // how many families have so many members
	for range 1000 {
		list := samples.SomeEvents(rnd.Intn, valid)
		given := samples.Spare(list, mark)
		for _, at := range samples.Moments(list) {
			for account := -1; account <= 4; account++ {
				var want []int
				for sub := 1; sub <= 5; sub++ {
					if s, exists := customer.Sub(list, sub, at); exists && s.Account == account && s.Family {
						want = append(want, sub)
					}
				}
				got := Family(given, account, at)
				if !slices.Equal(got, want) {
					t.Fatalf("Family(%+v, %d, %d) = %v, not %v", list, account, at, got, want)
				}
				long[len(got)]++
				clear(got[:cap(got)])
			}
		}
		if !samples.Unchanged(given, list, mark) {
			t.Fatal("the argument has changed")
		}
	}
	if long[0] < 10000 || long[1] < 1000 || long[2] < 100 {
		t.Error(long)
	}
}

// opened returns events that add the subscription 7 at 100, followed by others.
func opened(events ...api.Event) []api.Event {
	list := []api.Event{
		{At: 50, Kind: api.EventOpen, Account: 1, Name: "prepaid", Value: 1},
		{At: 100, Kind: api.EventAdd, Account: 1, Sub: 7, Name: "basic"},
	}
	for _, e := range events {
		if e.Kind != api.EventTopup {
			e.Sub = 7
		}
		list = append(list, e)
	}
	return list
}

// The first example of the chapter.
func TestExample(t *testing.T) {
	list := opened(
		api.Event{At: 200, Kind: api.EventProduct, Name: "flat"},
		api.Event{At: 300, Kind: api.EventSuspend},
		api.Event{At: 400, Kind: api.EventResume},
		api.Event{At: 400, Kind: api.EventPlan, Name: "plus"},
	)
	flat := []string{"flat"}
	want := []api.Spell{
		{Period: api.Period{From: 100, To: 200}, Plan: "basic"},
		{Period: api.Period{From: 200, To: 300}, Plan: "basic", Products: flat},
		{Period: api.Period{From: 300, To: 400}, Plan: "basic", Products: flat, Suspended: true},
		{Period: api.Period{From: 400, To: api.Forever}, Plan: "plus", Products: flat},
	}
	if got := Spells(list, 7); !slices.EqualFunc(got, want, equal) {
		t.Errorf("%+v", got)
	}
	if got := Active(list, 7, "flat"); !slices.Equal(got, []api.Period{{From: 200, To: api.Forever}}) {
		t.Error(got)
	}
	if got := Served(list, 7); !slices.Equal(got, []api.Period{{From: 100, To: 300}, {From: 400, To: api.Forever}}) {
		t.Error(got)
	}
}

// Events that leave no trace, alone or together with others at their instant, and those that leave one.
func TestTraces(t *testing.T) {
	event := func(kind int, name string) api.Event { return api.Event{At: 200, Kind: kind, Name: name} }
	number := api.Event{At: 150, Kind: api.EventNumber, Number: "49"}
	release := api.Event{At: 200, Kind: api.EventRelease, Number: "49"}
	for i, x := range []struct {
		events []api.Event
		limits []int
	}{
		{nil, []int{100, api.Forever}},
		{[]api.Event{event(api.EventProduct, "flat"), event(api.EventDrop, "flat")}, []int{100, api.Forever}},
		{[]api.Event{event(api.EventProduct, "flat"), event(api.EventDrop, "flat"), event(api.EventProduct, "flat")}, []int{100, 200, api.Forever}},
		{[]api.Event{event(api.EventSuspend, ""), event(api.EventResume, "")}, []int{100, api.Forever}},
		{[]api.Event{event(api.EventJoin, ""), event(api.EventLeave, "")}, []int{100, api.Forever}},
		{[]api.Event{event(api.EventJoin, "")}, []int{100, 200, api.Forever}},
		{[]api.Event{event(api.EventSuspend, "")}, []int{100, 200, api.Forever}},
		{[]api.Event{event(api.EventPlan, "basic")}, []int{100, api.Forever}},
		{[]api.Event{event(api.EventPlan, "plus"), event(api.EventPlan, "basic")}, []int{100, api.Forever}},
		{[]api.Event{event(api.EventPlan, "plus"), event(api.EventSuspend, "")}, []int{100, 200, api.Forever}},
		{[]api.Event{number, release}, []int{100, api.Forever}},
		{[]api.Event{number, release, event(api.EventPlan, "plus")}, []int{100, 200, api.Forever}},
		{[]api.Event{{At: 200, Kind: api.EventTopup, Account: 1, Value: 1}}, []int{100, api.Forever}},
		{[]api.Event{event(api.EventEnd, "")}, []int{100, 200}},
		{[]api.Event{event(api.EventSuspend, ""), event(api.EventEnd, "")}, []int{100, 200}},
		{[]api.Event{{At: 100, Kind: api.EventEnd}}, nil},
		{[]api.Event{{At: 100, Kind: api.EventPlan, Name: "plus"}}, []int{100, api.Forever}},
		{[]api.Event{{At: api.Forever - 1, Kind: api.EventSuspend}}, []int{100, api.Forever - 1, api.Forever}},
		{[]api.Event{{At: api.Forever - 1, Kind: api.EventEnd}}, []int{100, api.Forever - 1}},
	} {
		list := opened(x.events...)
		if !valid(list) {
			t.Error("case", i)
		}
		var limits []int
		for _, s := range Spells(list, 7) {
			limits = append(limits, s.Period.From, s.Period.To)
		}
		slices.Sort(limits)
		if limits = slices.Compact(limits); !slices.Equal(limits, x.limits) {
			t.Error("case", i, limits)
		}
	}
}

// A product that is dropped and received again at one instant, and a subscription that is resumed and suspended again, were never without it.
func TestMaximal(t *testing.T) {
	list := opened(
		api.Event{At: 200, Kind: api.EventProduct, Name: "flat"},
		api.Event{At: 250, Kind: api.EventSuspend},
		api.Event{At: 300, Kind: api.EventDrop, Name: "flat"},
		api.Event{At: 300, Kind: api.EventResume},
		api.Event{At: 300, Kind: api.EventProduct, Name: "flat"},
		api.Event{At: 300, Kind: api.EventSuspend},
		api.Event{At: 350, Kind: api.EventProduct, Name: "mail"},
		api.Event{At: 400, Kind: api.EventDrop, Name: "flat"},
		api.Event{At: 401, Kind: api.EventProduct, Name: "flat"},
		api.Event{At: 500, Kind: api.EventEnd},
	)
	if !valid(list) {
		t.Fatal("not valid")
	}
	if got := Active(list, 7, "flat"); !slices.Equal(got, []api.Period{{From: 200, To: 400}, {From: 401, To: 500}}) {
		t.Error(got)
	}
	if got := Active(list, 7, "mail"); !slices.Equal(got, []api.Period{{From: 350, To: 500}}) {
		t.Error(got)
	}
	if got := Served(list, 7); !slices.Equal(got, []api.Period{{From: 100, To: 250}}) {
		t.Error(got)
	}
}

// The greatest list: a subscription that receives products one by one, in no order.
func TestManyEvents(t *testing.T) {
	list := opened()
	for i := range api.MaxRecords - len(list) {
		list = append(list, api.Event{At: 200 + i, Kind: api.EventProduct, Sub: 7, Name: "p" + strconv.Itoa(i*7919%4096)})
	}
	if !valid(list) {
		t.Fatal("not valid")
	}
	spells := Spells(list, 7)
	last := spells[len(spells)-1]
	if len(spells) != 4095 || len(last.Products) != 4094 || !slices.IsSorted(last.Products) || len(spells[1].Products) != 1 {
		t.Error(len(spells), len(last.Products))
	}
	if s, has := At(list, 7, 202); !has || !slices.Equal(s.Products, []string{"p0", "p3550", "p3823"}) {
		t.Error(s, has)
	}
}

// R1: lists that are not valid.
func TestAnything(t *testing.T) {
	rnd := rand.New(rand.NewSource(25))
	strange := []int{math.MinInt, -1, 0, 1, api.Forever, math.MaxInt}
	for range 20000 {
		var list []api.Event
		for range rnd.Intn(12) {
			e := samples.Event(rnd.Intn, rnd.Intn(3))
			switch rnd.Intn(6) {
			case 0:
				e.Sub = strange[rnd.Intn(6)]
			case 1:
				e.At = strange[rnd.Intn(6)]
			case 2:
				e.Kind = strange[rnd.Intn(6)]
			}
			list = append(list, e)
		}
		for _, n := range strange {
			Spells(list, n)
			At(list, n, 1)
			At(list, 1, n)
			Active(list, n, "flat")
			Served(list, n)
			Family(list, n, 1)
			Family(list, 1, n)
		}
	}
}
