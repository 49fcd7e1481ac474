package enrich

import (
	"math"
	"math/rand"
	"slices"
	"testing"

	"billing/api"
	"billing/customer"
	"billing/samples"
	"billing/validate"
)

// valid reports whether a list of events is valid.
func valid(list []api.Event) bool {
	_, err := customer.Check(list)
	return err == api.OK
}

// mark fills the spare capacity of arguments.
var mark = api.Event{At: -7, Number: "spare"}

// opened is the list of the examples, which is valid.
func opened(more ...api.Event) []api.Event {
	return append([]api.Event{
		{Kind: api.EventOpen, Account: 1, Name: "postpaid", Value: 1},
		{Kind: api.EventAdd, Account: 1, Sub: 2, Name: "basic"},
		{At: 100, Kind: api.EventNumber, Sub: 2, Number: "4915"},
	}, more...)
}

// call is a voice record from a to b.
func call(a, b string, start int) api.Record {
	return api.Record{Source: 3, Serial: 4, Kind: api.KindVoice, A: a, B: b, Start: start, Units: 60}
}

// inbound is a voice record from a to b that came over the trunk 5.
func inbound(a, b string, start int) api.Record {
	r := call(a, b, start)
	r.Trunk, r.Inbound = 5, true
	return r
}

// model returns what Usage should return: the definition, by the state of all customers.
func model(list []api.Event, r api.Record, id int) (api.Usage, api.Errno) {
	if err := validate.Check(r); err != api.OK {
		return api.Usage{}, err
	}
	if r.Part != 0 {
		return api.Usage{}, api.ErrInvalid
	}
	number := r.A
	if r.Inbound {
		number = r.B
	}
	for _, s := range customer.State(list, r.Start).Subs {
		if !slices.Contains(s.Numbers, number) {
			continue
		}
		if s.Suspended && !r.Inbound {
			return api.Usage{}, api.ErrSuspended
		}
		return api.Usage{Id: id, Kind: r.Kind, Account: s.Account, Sub: s.Id, A: r.A, B: r.B, Start: r.Start, Units: r.Units, Trunk: r.Trunk, Inbound: r.Inbound, Source: r.Source, Serial: r.Serial}, api.OK
	}
	return api.Usage{}, api.ErrNotFound
}

// someRecord returns a record, most often a whole one between the numbers of the samples, with its beginning about at one of some instants.
func someRecord(rnd *rand.Rand, times []int) api.Record {
	r := samples.Record(rnd.Intn)
	for _, number := range []*string{&r.A, &r.B} {
		if rnd.Intn(12) > 0 {
			*number = []string{"4915", "49", "33123456789", "491"}[rnd.Intn(4)]
		}
	}
	if rnd.Intn(12) > 0 {
		r.Call, r.Part, r.Last = 0, 0, false
	}
	if rnd.Intn(12) > 0 {
		r.Start = times[rnd.Intn(len(times))]
	}
	return r
}

// belongs reports whether a usage belongs to its subscription at its beginning.
func belongs(list []api.Event, u api.Usage) bool {
	number := u.A
	if u.Inbound {
		number = u.B
	}
	s, found := customer.Sub(list, u.Sub, u.Start)
	return found && slices.Contains(s.Numbers, number) && s.Account == u.Account
}

// P21.1, P21.3 and P21.4, with R3 and R5.
func TestUsage(t *testing.T) {
	rnd := rand.New(rand.NewSource(21))
	found, retail := map[api.Errno]int{}, map[bool]int{}
	for range 1000 {
		list := samples.SomeEvents(rnd.Intn, valid)
		given, times := samples.Spare(list, mark), samples.Moments(list)
		for range 50 {
			r, id := someRecord(rnd, times), rnd.Int()-rnd.Int()
			u, err := Usage(given, r, id)
			want, wantErr := model(list, r, id)
			if u != want || err != wantErr {
				t.Fatalf("Usage(%+v, %+v, %d) = %+v, %v, not %+v, %v", list, r, id, u, err, want, wantErr)
			}
			found[err]++
			if err == api.OK {
				retail[Retail(u)]++
				if !belongs(list, u) {
					t.Fatalf("%+v does not belong to its subscription", u)
				}
			}
			past := slices.DeleteFunc(slices.Clone(list), func(e api.Event) bool { return e.At > r.Start })
			if same, sameErr := Usage(past, r, id); same != u || sameErr != err {
				t.Fatalf("Usage(%+v, %+v, %d) = %+v, %v, with later events %+v, %v", past, r, id, same, sameErr, u, err)
			}
		}
		if !samples.Unchanged(given, list, mark) {
			t.Fatal("the argument has changed")
		}
	}
	for _, err := range []api.Errno{api.ErrRange, api.ErrKind, api.ErrNumber, api.ErrTime, api.ErrInvalid, api.ErrNotFound, api.ErrSuspended} {
		if found[err] < 200 {
			t.Error("error", err, "only", found[err])
		}
	}
	if retail[true] < 1000 || retail[false] < 500 {
		t.Error(retail)
	}
}

// Examples 1 to 3.
func TestExamples(t *testing.T) {
	list := opened(api.Event{At: 200, Kind: api.EventSuspend, Sub: 2})
	want := api.Usage{Id: 9, Kind: api.KindVoice, Account: 1, Sub: 2, A: "4915", B: "33", Start: 100, Units: 60, Source: 3, Serial: 4}
	if u, err := Usage(list, call("4915", "33", 100), 9); err != api.OK || u != want || !Retail(u) {
		t.Error(u, err)
	}
	if u, err := Usage(list, call("4915", "33", 99), 9); err != api.ErrNotFound || u != (api.Usage{}) {
		t.Error(u, err)
	}
	want = api.Usage{Id: 9, Kind: api.KindVoice, Account: 1, Sub: 2, A: "33", B: "4915", Start: 100, Units: 60, Trunk: 5, Inbound: true, Source: 3, Serial: 4}
	if u, err := Usage(list, inbound("33", "4915", 100), 9); err != api.OK || u != want || Retail(u) {
		t.Error(u, err)
	}
	if u, err := Usage(list, call("4915", "33", 200), 9); err != api.ErrSuspended || u != (api.Usage{}) {
		t.Error(u, err)
	}
	if u, err := Usage(list, inbound("33", "4915", 200), 9); err != api.OK || u.Sub != 2 {
		t.Error(u, err)
	}
}

// P21.1: which number counts, and when.
func TestUsageNumber(t *testing.T) {
	list := opened(
		api.Event{At: 150, Kind: api.EventOpen, Account: 7, Name: "prepaid", Value: 1},
		api.Event{At: 150, Kind: api.EventAdd, Account: 7, Sub: 1, Name: "basic"},
		api.Event{At: 200, Kind: api.EventSuspend, Sub: 2},
		api.Event{At: 210, Kind: api.EventResume, Sub: 2},
		api.Event{At: 300, Kind: api.EventRelease, Sub: 2, Number: "4915"},
		api.Event{At: 300, Kind: api.EventNumber, Sub: 1, Number: "4915"},
		api.Event{At: 400, Kind: api.EventEnd, Sub: 1},
		api.Event{At: api.Forever - 1, Kind: api.EventNumber, Sub: 2, Number: "4915"},
	)
	data, came := call("4915", "", 150), inbound("4915", "", 150)
	data.Kind, came.Kind = api.KindData, api.KindData
	long := call("4915", "33", api.Forever-1)
	long.Units = 1
	for i, x := range []struct {
		r            api.Record
		account, sub int
		want         api.Errno
	}{
		{call("4915", "33", 0), 0, 0, api.ErrNotFound},
		{call("4915", "33", 199), 1, 2, api.OK},
		{call("4915", "33", 200), 0, 0, api.ErrSuspended},
		{call("4915", "33", 209), 0, 0, api.ErrSuspended},
		{call("4915", "33", 210), 1, 2, api.OK},
		{call("4915", "33", 299), 1, 2, api.OK}, // it ends when another one has the number
		{call("4915", "33", 300), 7, 1, api.OK},
		{call("4915", "33", 399), 7, 1, api.OK},
		{call("4915", "33", 400), 0, 0, api.ErrNotFound},
		{inbound("33", "4915", 99), 0, 0, api.ErrNotFound},
		{inbound("33", "4915", 205), 1, 2, api.OK},
		{inbound("33", "4915", 300), 7, 1, api.OK},
		{inbound("33", "4915", 400), 0, 0, api.ErrNotFound},
		{long, 1, 2, api.OK},
		// The other number makes no difference.
		{call("4915", "4915", 150), 1, 2, api.OK},
		{call("33", "4915", 150), 0, 0, api.ErrNotFound},
		{inbound("4915", "33", 150), 0, 0, api.ErrNotFound},
		// An empty number, and one of which the subscription has only a prefix.
		{data, 1, 2, api.OK},
		{came, 0, 0, api.ErrNotFound},
		{call("49151", "33", 150), 0, 0, api.ErrNotFound},
		{call("491", "33", 150), 0, 0, api.ErrNotFound},
	} {
		u, err := Usage(list, x.r, 1)
		if err != x.want || u.Account != x.account || u.Sub != x.sub {
			t.Errorf("case %d: Usage(.., %+v, 1) = %+v, %v", i, x.r, u, err)
		}
	}
	if u, err := Usage(nil, call("4915", "33", 150), 1); err != api.ErrNotFound || u != (api.Usage{}) {
		t.Error(u, err)
	}
}

// P21.1: a usage that goes to a partner keeps its trunk, and is retail.
func TestUsageTrunk(t *testing.T) {
	r := call("4915", "33", 100)
	r.Trunk = api.MaxTrunk
	if u, err := Usage(opened(), r, 1); err != api.OK || u.Trunk != api.MaxTrunk || u.Inbound || !Retail(u) {
		t.Error(u, err)
	}
}

// P21.1: any integer can be the Id.
func TestUsageId(t *testing.T) {
	for _, id := range []int{math.MinInt, -1, 0, 1, api.MaxSerial + 1, math.MaxInt} {
		if u, err := Usage(opened(), call("4915", "33", 100), id); err != api.OK || u.Id != id {
			t.Error(id, u, err)
		}
	}
}

// P21.1: the errors, in their order.
func TestUsageErrors(t *testing.T) {
	list := opened(api.Event{At: 200, Kind: api.EventSuspend, Sub: 2})
	r := api.Record{Serial: 1, A: "x", B: "33", Start: -1, Units: -1, Call: 5, Part: -1, Trunk: -1}
	for i, x := range []struct {
		want   api.Errno
		repair func()
	}{
		{api.ErrRange, func() { r.Source = 1 }},
		{api.ErrKind, func() { r.Kind = api.KindText }},
		{api.ErrNumber, func() { r.A = "1" }},
		{api.ErrTime, func() { r.Start = 200 }},
		{api.ErrRange, func() { r.Units = 1 }},
		{api.ErrRange, func() { r.Part = 0 }},
		{api.ErrInvalid, func() { r.Part = 1 }},
		{api.ErrRange, func() { r.Trunk = 0 }},
		{api.ErrInvalid, func() { r.A = "4915" }}, // a part of somebody without the number
		{api.ErrInvalid, func() { r.Last = true }},
		{api.ErrInvalid, func() { r.Call, r.Part = 0, 0 }},
		{api.ErrInvalid, func() { r.Last, r.A = false, "1" }}, // no part is the last one
		{api.ErrNotFound, func() { r.A = "4915" }},
		{api.ErrSuspended, func() { r.Start = 199 }},
		{api.OK, func() {}},
	} {
		u, err := Usage(list, r, 1)
		if err != x.want || err != api.OK && u != (api.Usage{}) {
			t.Errorf("case %d: Usage(.., %+v, 1) = %+v, %v, not %v", i, r, u, err, x.want)
		}
		x.repair()
	}
}

// P21.2: for any usage, also one that Usage does not return.
func TestRetailKey(t *testing.T) {
	for _, n := range []int{math.MinInt, -1, 0, 1, api.MaxSource, api.MaxSerial, math.MaxInt} {
		for _, came := range []bool{false, true} {
			u := api.Usage{Id: 8, Kind: 7, Account: 6, Sub: 5, Trunk: 4, Inbound: came, Source: n, Serial: n / 2}
			if Retail(u) == came {
				t.Error("Retail of", u)
			}
			if source, serial := Key(u); source != n || serial != n/2 {
				t.Error("Key of", u, "is", source, serial)
			}
		}
	}
	if !Retail(api.Usage{}) || Retail(api.Usage{Inbound: true}) {
		t.Error("the trunk makes no difference")
	}
}

// R1: lists of events that are not valid.
func TestAnything(t *testing.T) {
	rnd := rand.New(rand.NewSource(210))
	found := map[api.Errno]int{}
	for range 5000 {
		var list []api.Event
		for range rnd.Intn(20) {
			e := samples.Event(rnd.Intn, rnd.Intn(40))
			if rnd.Intn(4) == 0 {
				e = api.Event{At: rnd.Intn(40) - 5, Kind: rnd.Intn(api.Events + 2), Sub: rnd.Intn(4) - 1, Account: rnd.Intn(4) - 1, Number: []string{"", "49", "x"}[rnd.Intn(3)]}
			}
			list = append(list, e)
		}
		_, err := Usage(list, someRecord(rnd, []int{0, 5, 20, 40}), rnd.Intn(3))
		found[err]++
	}
	if found[api.OK] == 0 || found[api.ErrNotFound] == 0 || found[api.ErrRange] == 0 {
		t.Error(found)
	}
}
