package numbering

import (
	"math"
	"math/rand"
	"slices"
	"testing"

	"billing/api"
	"billing/customer"
	"billing/samples"
)

// texts are the numbers of the samples, another one, and texts that are none.
func texts() []string {
	return []string{"4915", "49", "33123456789", "491", "", "49x", "1234567890123456"}
}

// valid reports whether a list of events is valid.
func valid(list []api.Event) bool {
	_, err := customer.Check(list)
	return err == api.OK
}

// owner returns the subscription that has a number in Numbers at t, or 0: the definition.
func owner(list []api.Event, number string, t int) int {
	for _, s := range customer.State(list, t).Subs {
		if slices.Contains(s.Numbers, number) {
			return s.Id
		}
	}
	return 0
}

// modelSpells returns the maximal periods at all of whose instants the number belongs to the same subscription.
func modelSpells(list []api.Event, number string) []api.Owned {
	var spells []api.Owned
	times := samples.Limits(list)
	for i, from := range times {
		to := api.Forever
		if i+1 < len(times) {
			to = times[i+1]
		}
		n := len(spells)
		switch sub := owner(list, number, from); {
		case sub == 0:
		case n > 0 && spells[n-1].Sub == sub && spells[n-1].Period.To == from:
			spells[n-1].Period.To = to
		default:
			spells = append(spells, api.Owned{Sub: sub, Period: api.Period{From: from, To: to}})
		}
	}
	return spells
}

// mark fills the spare capacity of arguments.
var mark = api.Event{At: -7, Number: "spare"}

// P18.1, P18.3 and P18.5.
func TestOwner(t *testing.T) {
	rnd := rand.New(rand.NewSource(18))
	owned, free := 0, 0
	for range 300 {
		list := samples.SomeEvents(rnd.Intn, valid)
		given := samples.Spare(list, mark)
		for _, at := range samples.Moments(list) {
			for _, number := range texts() {
				sub, found := Owner(given, number, at)
				if want := owner(list, number, at); sub != want || found != (want != 0) {
					t.Fatalf("Owner(%+v, %q, %d) = %d, %v, not %d", list, number, at, sub, found, want)
				}
				if found {
					owned++
				} else {
					free++
				}
				for id := range 8 {
					if has := slices.Contains(Numbers(given, id, at), number); has != (found && id == sub) {
						t.Fatalf("Numbers(%+v, %d, %d) contain %q: %v", list, id, at, number, has)
					}
				}
			}
		}
		if !samples.Unchanged(given, list, mark) {
			t.Fatal("the argument has changed")
		}
	}
	if owned < 2000 || free < 2000 {
		t.Error(owned, free)
	}
}

// P18.2 and P18.5, with R5.
func TestSpells(t *testing.T) {
	rnd := rand.New(rand.NewSource(180))
	long := map[int]int{} // how many numbers have so many spells
	endless, touching := 0, 0
	for range 2000 {
		list := samples.SomeEvents(rnd.Intn, valid)
		given := samples.Spare(list, mark)
		for _, number := range texts() {
			spells, want := Spells(given, number), modelSpells(list, number)
			if !slices.Equal(spells, want) {
				t.Fatalf("Spells(%+v, %q) = %v, not %v", list, number, spells, want)
			}
			long[len(want)]++
			for i, s := range want {
				if s.Period.To == api.Forever {
					endless++
				}
				if i > 0 && s.Period.From == want[i-1].Period.To {
					touching++
				}
			}
			for _, at := range []int{0, rnd.Intn(60), rnd.Intn(60), api.Forever - 1} {
				sub, _ := Owner(given, number, at)
				i := slices.IndexFunc(spells, func(s api.Owned) bool { return s.Period.From <= at && at < s.Period.To })
				if (i < 0) != (sub == 0) || i >= 0 && spells[i].Sub != sub {
					t.Fatalf("%q belongs to %d at %d, with the spells %v", number, sub, at, spells)
				}
			}
			clear(spells[:cap(spells)])
		}
		if !samples.Unchanged(given, list, mark) {
			t.Fatal("the argument has changed")
		}
	}
	if long[0] < 1000 || long[1] < 1000 || long[2] < 100 || long[3] < 10 || endless < 500 || touching < 10 {
		t.Error(long, endless, touching)
	}
}

// P18.3.
func TestNumbers(t *testing.T) {
	rnd := rand.New(rand.NewSource(181))
	several := 0
	for range 300 {
		list := samples.SomeEvents(rnd.Intn, valid)
		given := samples.Spare(list, mark)
		for _, at := range samples.Moments(list) {
			subs := customer.State(list, at).Subs
			for _, id := range []int{math.MinInt, -1, 0, 1, 2, 3, 4, 5, 6, 7, math.MaxInt} {
				var want []string
				for _, s := range subs {
					if s.Id == id {
						want = s.Numbers
					}
				}
				got := Numbers(given, id, at)
				if !slices.Equal(got, want) || !slices.IsSorted(got) {
					t.Fatalf("Numbers(%+v, %d, %d) = %q, not %q", list, id, at, got, want)
				}
				if len(got) > 1 {
					several++
				}
				clear(got[:cap(got)])
			}
		}
		if !samples.Unchanged(given, list, mark) {
			t.Fatal("the argument has changed")
		}
	}
	if several < 200 {
		t.Error(several)
	}
}

// P18.4: a period is free if each of its instants is.
func TestFree(t *testing.T) {
	rnd := rand.New(rand.NewSource(182))
	found := map[bool]int{}
	for range 300 {
		list := samples.SomeEvents(rnd.Intn, valid)
		given := samples.Spare(list, mark)
		times := samples.Moments(list)
		number := texts()[rnd.Intn(3)]
		for _, from := range times {
			for _, to := range times {
				want := 0 <= from && from < to && to <= api.Forever
				for i := 0; want && i < len(times); i++ {
					want = times[i] < from || times[i] >= to || owner(list, number, times[i]) == 0
				}
				p := api.Period{From: from, To: to}
				if got := Free(given, number, p); got != want {
					t.Fatalf("Free(%+v, %q, %v) = %v", list, number, p, got)
				}
				found[want]++
			}
		}
		if !samples.Unchanged(given, list, mark) {
			t.Fatal("the argument has changed")
		}
	}
	if found[true] < 5000 || found[false] < 5000 {
		t.Error(found)
	}
}

// P18.4: a text that is no number is free in every valid period, and in no other one.
func TestFreeText(t *testing.T) {
	list := move()
	for _, number := range []string{"", "x", "491", "1234567890123456"} {
		for _, p := range []api.Period{{From: 0, To: 1}, {From: 0, To: api.Forever}, {From: api.Forever - 1, To: api.Forever}} {
			if !Free(list, number, p) {
				t.Errorf("%q in %v", number, p)
			}
		}
		for _, p := range []api.Period{{}, {From: 5, To: 5}, {From: 6, To: 5}, {From: -1, To: 5}, {From: 5, To: api.Forever + 1}, {From: math.MinInt, To: math.MaxInt}} {
			if Free(list, number, p) {
				t.Errorf("%q in %v, which is not valid", number, p)
			}
		}
	}
}

// move returns events by which the number 49 moves from the subscription 7 to 8.
func move() []api.Event {
	return []api.Event{
		{At: 50, Kind: api.EventOpen, Account: 1, Name: "prepaid", Value: 1},
		{At: 50, Kind: api.EventAdd, Account: 1, Sub: 7, Name: "basic"},
		{At: 50, Kind: api.EventAdd, Account: 1, Sub: 8, Name: "basic"},
		{At: 100, Kind: api.EventNumber, Sub: 7, Number: "49"},
		{At: 200, Kind: api.EventRelease, Sub: 7, Number: "49"},
		{At: 200, Kind: api.EventNumber, Sub: 8, Number: "49"},
	}
}

// The examples of the chapter, and other moves of a number at one instant.
func TestMoves(t *testing.T) {
	release, receive := api.Event{At: 200, Kind: api.EventRelease, Sub: 8, Number: "49"}, api.Event{At: 200, Kind: api.EventNumber, Sub: 7, Number: "49"}
	first := api.Owned{Sub: 7, Period: api.Period{From: 100, To: 200}}
	second := api.Owned{Sub: 8, Period: api.Period{From: 200, To: api.Forever}}
	all := api.Owned{Sub: 7, Period: api.Period{From: 100, To: api.Forever}}
	for i, x := range []struct {
		list []api.Event
		want []api.Owned
	}{
		{move(), []api.Owned{first, second}},
		{append(move()[:5], receive), []api.Owned{all}},
		{append(move(), release), []api.Owned{first}},
		{append(move(), release, receive), []api.Owned{all}},
		{append(move(), api.Event{At: 200, Kind: api.EventEnd, Sub: 8}), []api.Owned{first}},
		{append(move(), api.Event{At: 200, Kind: api.EventEnd, Sub: 8}, receive), []api.Owned{all}},
		{append(move()[:4], api.Event{At: 200, Kind: api.EventEnd, Sub: 7}), []api.Owned{first}},
		{append(move()[:4], api.Event{At: 200, Kind: api.EventEnd, Sub: 7}, move()[5]), []api.Owned{first, second}},
		{append(move()[:4], api.Event{At: 100, Kind: api.EventEnd, Sub: 7}), nil},
		{append(move()[:4], api.Event{At: 200, Kind: api.EventSuspend, Sub: 7}), []api.Owned{all}},
		{move()[:3], nil},
		{nil, nil},
	} {
		if !valid(x.list) {
			t.Error("case", i)
		}
		if got := Spells(x.list, "49"); !slices.Equal(got, x.want) {
			t.Error("case", i, got)
		}
	}
	if !Free(move(), "49", api.Period{From: 0, To: 100}) || Free(move(), "49", api.Period{From: 0, To: 101}) {
		t.Error("Free")
	}
}

// R1: lists that are not valid.
func TestAnything(t *testing.T) {
	rnd := rand.New(rand.NewSource(183))
	for range 20000 {
		var list []api.Event
		for range rnd.Intn(12) {
			e := samples.Event(rnd.Intn, rnd.Intn(3))
			switch rnd.Intn(6) {
			case 0:
				e.Sub = []int{math.MinInt, -1, 0, math.MaxInt}[rnd.Intn(4)]
			case 1:
				e.At = []int{math.MinInt, -1, api.Forever, math.MaxInt}[rnd.Intn(4)]
			}
			list = append(list, e)
		}
		for _, number := range texts() {
			for _, n := range []int{math.MinInt, -1, 0, 1, 2, math.MaxInt} {
				Owner(list, number, n)
				Numbers(list, n, 1)
				Numbers(list, 1, n)
				Free(list, number, api.Period{From: n, To: 5})
				Free(list, number, api.Period{From: 1, To: n})
			}
			Spells(list, number)
		}
	}
}
