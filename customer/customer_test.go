package customer

import (
	"math"
	"math/rand"
	"slices"
	"strings"
	"testing"

	"billing/api"
	"billing/samples"
)

// opening returns a valid list of events: account 1 has the subscriptions 7 and 3, account 2 none, and account 3 is closed.
func opening() []api.Event {
	return []api.Event{
		{At: 10, Kind: api.EventOpen, Account: 1, Name: "prepaid", Value: 15},
		{At: 10, Kind: api.EventOpen, Account: 2, Name: "postpaid", Value: 1},
		{At: 10, Kind: api.EventOpen, Account: 3, Name: "prepaid", Value: 28},
		{At: 20, Kind: api.EventAdd, Account: 1, Sub: 7, Name: "basic"},
		{At: 20, Kind: api.EventAdd, Account: 1, Sub: 3, Name: "plus"},
		{At: 20, Kind: api.EventAdd, Account: 3, Sub: 9, Name: "plus"},
		{At: 30, Kind: api.EventNumber, Sub: 7, Number: "4915"},
		{At: 30, Kind: api.EventNumber, Sub: 7, Number: "4914"},
		{At: 30, Kind: api.EventNumber, Sub: 9, Number: "33"},
		{At: 40, Kind: api.EventProduct, Sub: 7, Name: "flat"},
		{At: 50, Kind: api.EventSuspend, Sub: 7},
		{At: 50, Kind: api.EventJoin, Sub: 7},
		{At: 60, Kind: api.EventEnd, Sub: 9},
		{At: 60, Kind: api.EventClose, Account: 3},
	}
}

// possible returns for each kind an event that is possible after the opening.
func possible() []api.Event {
	return []api.Event{
		{At: 60, Kind: api.EventOpen, Account: 4, Name: "postpaid", Value: 28},
		{At: 60, Kind: api.EventClose, Account: 2},
		{At: 60, Kind: api.EventAdd, Account: 1, Sub: 4, Name: "basic"},
		{At: 60, Kind: api.EventEnd, Sub: 7},
		{At: 60, Kind: api.EventNumber, Sub: 3, Number: "33"},
		{At: 60, Kind: api.EventRelease, Sub: 7, Number: "4914"},
		{At: 60, Kind: api.EventPlan, Sub: 7, Name: "basic"},
		{At: 60, Kind: api.EventProduct, Sub: 3, Name: "flat"},
		{At: 60, Kind: api.EventDrop, Sub: 7, Name: "flat"},
		{At: 60, Kind: api.EventSuspend, Sub: 3},
		{At: 60, Kind: api.EventResume, Sub: 7},
		{At: 60, Kind: api.EventJoin, Sub: 3},
		{At: 60, Kind: api.EventLeave, Sub: 7},
		{At: 60, Kind: api.EventTopup, Account: 1, Value: 1},
		{At: 60, Kind: api.EventFloor, Account: 1, Value: 0},
	}
}

// changes returns functions that set one field of an event each; faults of a field are beside values that a kind may permit.
func changes() [][]func(e *api.Event) {
	var at, kind, account, sub, number, name, value []func(e *api.Event)
	for _, n := range []int{math.MinInt, -1, 0, 59, 60, 61, api.Forever - 1, api.Forever, math.MaxInt} {
		at = append(at, func(e *api.Event) { e.At = n })
	}
	for _, n := range []int{math.MinInt, -1, 0, api.Events, api.Events + 1, math.MaxInt} {
		kind = append(kind, func(e *api.Event) { e.Kind = n })
	}
	for _, n := range []int{math.MinInt, -1, 0, 1, 2, 3, 4, 7, 9, api.MaxAccount, api.MaxAccount + 1, math.MaxInt} {
		account = append(account, func(e *api.Event) { e.Account = n })
		sub = append(sub, func(e *api.Event) { e.Sub = n })
	}
	for _, s := range []string{"", "0", "33", "4915", "4914", "49x", "-1", "123456789012345", "1234567890123456"} {
		number = append(number, func(e *api.Event) { e.Number = s })
	}
	for _, s := range []string{"", "a", "flat", "prepaid", "postpaid", "Prepaid", "a b", "1a", "a-1", strings.Repeat("z", 24), strings.Repeat("z", 25)} {
		name = append(name, func(e *api.Event) { e.Name = s })
	}
	for _, n := range []int{math.MinInt, -api.MaxAmount - 1, -api.MaxAmount, -1, 0, 1, 28, 29, api.MaxAmount, api.MaxAmount + 1, math.MaxInt} {
		value = append(value, func(e *api.Event) { e.Value = n })
	}
	return [][]func(e *api.Event){at, kind, account, sub, number, name, value}
}

// mark fills the spare capacity of arguments.
var mark = api.Event{At: -7, Number: "spare"}

// P17.1: the events by themselves, with up to two fields set to something else.
func TestCheckFields(t *testing.T) {
	h := history(opening())
	if n, err := Check(h); n != 0 || err != api.OK {
		t.Fatal("the opening", n, err)
	}
	found := map[api.Errno]int{}
	test := func(e api.Event) {
		want, at := h.next(e), len(h)
		if want == api.OK {
			at = 0
		}
		if n, err := Check(append(slices.Clone(h), e)); n != at || err != want {
			t.Fatalf("Check with %+v = %d, %d, not %d", e, n, err, want)
		}
		found[want]++
	}
	all := changes()
	for i, e := range possible() {
		if e.Kind != i+1 || h.next(e) != api.OK {
			t.Fatal(e, h.next(e))
		}
		test(e)
		for i, some := range all {
			for _, others := range all[i:] {
				for _, change := range some {
					for _, another := range others {
						changed := e
						change(&changed)
						another(&changed)
						test(changed)
					}
				}
			}
		}
	}
	for _, err := range []api.Errno{api.OK, api.ErrKind, api.ErrTime, api.ErrOrder, api.ErrInvalid, api.ErrRange, api.ErrNumber, api.ErrExists, api.ErrNotFound, api.ErrClosed, api.ErrState} {
		if found[err] < 100 {
			t.Error("the error", err, "only", found[err])
		}
	}
}

// P17.1: what the preceding events permit.
func TestCheckState(t *testing.T) {
	for i, x := range []struct {
		e    api.Event
		want api.Errno
	}{
		{api.Event{Kind: api.EventOpen, Account: 1, Name: "prepaid", Value: 15}, api.ErrExists},
		{api.Event{Kind: api.EventOpen, Account: 3, Name: "prepaid", Value: 15}, api.ErrExists},
		{api.Event{Kind: api.EventOpen, Account: 7, Name: "prepaid", Value: 15}, api.OK},
		{api.Event{Kind: api.EventClose, Account: 1}, api.ErrState},
		{api.Event{Kind: api.EventClose, Account: 3}, api.ErrClosed},
		{api.Event{Kind: api.EventClose, Account: 4}, api.ErrNotFound},
		{api.Event{Kind: api.EventTopup, Account: 2, Value: 1}, api.ErrState},
		{api.Event{Kind: api.EventTopup, Account: 3, Value: 1}, api.ErrClosed},
		{api.Event{Kind: api.EventFloor, Account: 2, Value: -1}, api.ErrState},
		{api.Event{Kind: api.EventFloor, Account: 4, Value: -1}, api.ErrNotFound},
		{api.Event{Kind: api.EventAdd, Account: 1, Sub: 9, Name: "basic"}, api.ErrExists},
		{api.Event{Kind: api.EventAdd, Account: 1, Sub: 7, Name: "basic"}, api.ErrExists},
		{api.Event{Kind: api.EventAdd, Account: 3, Sub: 7, Name: "basic"}, api.ErrClosed},
		{api.Event{Kind: api.EventAdd, Account: 4, Sub: 7, Name: "basic"}, api.ErrNotFound},
		{api.Event{Kind: api.EventAdd, Account: 2, Sub: 1, Name: "basic"}, api.OK},
		{api.Event{Kind: api.EventEnd, Sub: 9}, api.ErrClosed},
		{api.Event{Kind: api.EventEnd, Sub: 1}, api.ErrNotFound},
		{api.Event{Kind: api.EventPlan, Sub: 9, Name: "basic"}, api.ErrClosed},
		{api.Event{Kind: api.EventPlan, Sub: 3, Name: "plus"}, api.OK},
		{api.Event{Kind: api.EventNumber, Sub: 9, Number: "4915"}, api.ErrClosed},
		{api.Event{Kind: api.EventNumber, Sub: 7, Number: "4915"}, api.ErrNumber},
		{api.Event{Kind: api.EventNumber, Sub: 3, Number: "4915"}, api.ErrNumber},
		{api.Event{Kind: api.EventNumber, Sub: 7, Number: "33"}, api.OK},
		{api.Event{Kind: api.EventRelease, Sub: 7, Number: "33"}, api.ErrNumber},
		{api.Event{Kind: api.EventRelease, Sub: 3, Number: "4915"}, api.ErrNumber},
		{api.Event{Kind: api.EventRelease, Sub: 9, Number: "33"}, api.ErrClosed},
		{api.Event{Kind: api.EventProduct, Sub: 7, Name: "flat"}, api.ErrExists},
		{api.Event{Kind: api.EventProduct, Sub: 7, Name: "flats"}, api.OK},
		{api.Event{Kind: api.EventDrop, Sub: 3, Name: "flat"}, api.ErrNotFound},
		{api.Event{Kind: api.EventDrop, Sub: 7, Name: "basic"}, api.ErrNotFound},
		{api.Event{Kind: api.EventSuspend, Sub: 7}, api.ErrState},
		{api.Event{Kind: api.EventResume, Sub: 3}, api.ErrState},
		{api.Event{Kind: api.EventJoin, Sub: 7}, api.ErrState},
		{api.Event{Kind: api.EventLeave, Sub: 3}, api.ErrState},
		{api.Event{Kind: api.EventLeave, Sub: 9}, api.ErrClosed},
	} {
		x.e.At = 60
		if n, err := Check(append(opening(), x.e)); err != x.want || err != api.OK && n != len(opening()) {
			t.Error("case", i, n, err)
		}
	}
}

// valid reports whether Check finds nothing.
func valid(list []api.Event) bool {
	_, err := Check(list)
	return err == api.OK
}

// P17.1: lists in which the first impossible event may be anywhere.
func TestCheckLists(t *testing.T) {
	rnd := rand.New(rand.NewSource(17))
	type fault struct {
		kind int
		err  api.Errno
	}
	found := map[fault]int{}
	for range 10000 {
		list := samples.Events(rnd.Intn, rnd.Intn(200), valid)
		last := 0
		if len(list) > 0 {
			last = list[len(list)-1].At
		}
		for range rnd.Intn(4) {
			list = append(list, samples.Event(rnd.Intn, last))
		}
		given := samples.Spare(list, mark)
		n, err := Check(given)
		if at, want := history(list).check(); n != at || err != want {
			t.Fatalf("Check(%+v) = %d, %d, not %d, %d", list, n, err, at, want)
		}
		if !samples.Unchanged(given, list, mark) {
			t.Fatal("the argument has changed")
		}
		if err != api.OK {
			found[fault{list[n].Kind, err}]++
		}
	}
	// The errors that the kinds of events, in their order, have by the preceding ones.
	count := 0
	for f, n := range found {
		if f.err != api.ErrOrder && n >= 3 {
			count++
		}
	}
	if count != 1+3+3+2+3+3+2+3+2+3+3+3+3+3+3 {
		t.Error(count, "errors:", found)
	}
}

// P17.1: the number of events.
func TestCheckLength(t *testing.T) {
	list := []api.Event{{Kind: api.EventOpen, Account: 1, Name: "prepaid", Value: 1}}
	for len(list) < 4096 {
		list = append(list, api.Event{At: api.Forever - 1, Kind: api.EventTopup, Account: 1, Value: api.MaxAmount})
	}
	if n, err := Check(list); n != 0 || err != api.OK {
		t.Error("as many as possible:", n, err)
	}
	list[4095].At--
	if n, err := Check(list); n != 4095 || err != api.ErrOrder {
		t.Error("the last one:", n, err)
	}
	list[0].Kind = 0
	if n, err := Check(list); n != 0 || err != api.ErrKind {
		t.Error("the first one:", n, err)
	}
	if n, err := Check(append(list, list[0])); n != 0 || err != api.ErrTooLong {
		t.Error("too many:", n, err)
	}
	if n, err := Check(nil); n != 0 || err != api.OK {
		t.Error("none:", n, err)
	}
}

// sameAccount reports whether two accounts are equal.
func sameAccount(a, b api.Account) bool {
	return a.Id == b.Id && a.Since == b.Since && a.Anchor == b.Anchor && a.Prepaid == b.Prepaid && a.Closed == b.Closed && slices.Equal(a.Subs, b.Subs)
}

// sameSub reports whether two subscriptions are equal.
func sameSub(a, b api.Sub) bool {
	return a.Id == b.Id && a.Account == b.Account && a.Since == b.Since && a.Plan == b.Plan && slices.Equal(a.Numbers, b.Numbers) && slices.Equal(a.Products, b.Products) && a.Suspended == b.Suspended && a.Family == b.Family
}

// same reports whether two results of State are equal.
func same(a, b api.Customers) bool {
	return slices.EqualFunc(a.Accounts, b.Accounts, sameAccount) && slices.EqualFunc(a.Subs, b.Subs, sameSub)
}

// P17.2, P17.3 and P17.5, with R5.
func TestState(t *testing.T) {
	rnd := rand.New(rand.NewSource(170))
	accounts, subs, closed, ended := 0, 0, 0, 0
	for range 400 {
		list := samples.Events(rnd.Intn, 150, valid)
		given := samples.Spare(list, mark)
		for _, at := range samples.Moments(list) {
			h := history(list).at(at)
			want := h.customers()
			got := State(given, at)
			if !same(got, want) {
				t.Fatalf("State(%+v, %d) = %+v, not %+v", list, at, got, want)
			}
			for id := -1; id <= 8; id++ {
				a, found := Account(given, id, at)
				i := slices.IndexFunc(want.Accounts, func(a api.Account) bool { return a.Id == id })
				if found != (i >= 0) || found && !sameAccount(a, want.Accounts[i]) || !found && !sameAccount(a, api.Account{}) {
					t.Fatalf("Account(%+v, %d, %d) = %+v, %v", list, id, at, a, found)
				}
				s, found := Sub(given, id, at)
				i = slices.IndexFunc(want.Subs, func(s api.Sub) bool { return s.Id == id })
				if found != (i >= 0) || found && !sameSub(s, want.Subs[i]) || !found && !sameSub(s, api.Sub{}) {
					t.Fatalf("Sub(%+v, %d, %d) = %+v, %v", list, id, at, s, found)
				}
				if a.Closed {
					closed++
				}
				if h.last(id, "", "", api.EventEnd).Kind != 0 {
					ended++
				}
			}
			accounts, subs = accounts+len(want.Accounts), subs+len(want.Subs)
			consistent(t, got)
			overwrite(got)
			if !samples.Unchanged(given, list, mark) || !same(State(given, at), want) {
				t.Fatal("the argument has changed")
			}
		}
	}
	if accounts < 5000 || subs < 5000 || closed < 500 || ended < 500 {
		t.Error(accounts, subs, closed, ended)
	}
}

// consistent checks P17.5 for the customers at an instant.
func consistent(t *testing.T, c api.Customers) {
	t.Helper()
	owners := map[string]bool{}
	for _, s := range c.Subs {
		i := slices.IndexFunc(c.Accounts, func(a api.Account) bool { return a.Id == s.Account })
		if i < 0 || c.Accounts[i].Closed || !slices.Contains(c.Accounts[i].Subs, s.Id) {
			t.Fatalf("the account of %+v in %+v", s, c.Accounts)
		}
		for _, n := range s.Numbers {
			if owners[n] {
				t.Fatalf("%s has two owners: %+v", n, c.Subs)
			}
			owners[n] = true
		}
	}
	for _, a := range c.Accounts {
		for _, id := range a.Subs {
			i := slices.IndexFunc(c.Subs, func(s api.Sub) bool { return s.Id == id })
			if i < 0 || c.Subs[i].Account != a.Id {
				t.Fatalf("the subscription %d of %+v in %+v", id, a, c.Subs)
			}
		}
	}
}

// overwrite changes all lists of a result, with their spare capacity, and checks nothing: what shares memory with them changes, too.
func overwrite(c api.Customers) {
	for i := range c.Accounts {
		subs := c.Accounts[i].Subs
		clear(subs[:cap(subs)])
	}
	for i := range c.Subs {
		numbers, products := c.Subs[i].Numbers, c.Subs[i].Products
		clear(numbers[:cap(numbers)])
		clear(products[:cap(products)])
	}
}

// R5: no two lists of one result share memory.
func TestLists(t *testing.T) {
	rnd := rand.New(rand.NewSource(171))
	for range 200 {
		list := samples.Events(rnd.Intn, 150, valid)
		c := State(list, api.Forever)
		want := history(list).customers()
		for i := range c.Subs {
			numbers, products := c.Subs[i].Numbers, c.Subs[i].Products
			if !slices.Equal(numbers, want.Subs[i].Numbers) || !slices.Equal(products, want.Subs[i].Products) {
				t.Fatalf("%+v has changed", c.Subs[i])
			}
			clear(numbers[:cap(numbers)])
			if !slices.Equal(products, want.Subs[i].Products) {
				t.Fatal("products share memory with numbers")
			}
			clear(products[:cap(products)])
		}
		for i := range c.Accounts {
			subs := c.Accounts[i].Subs
			if !slices.Equal(subs, want.Accounts[i].Subs) {
				t.Fatalf("%+v has changed", c.Accounts[i])
			}
			clear(subs[:cap(subs)])
		}
	}
}

// P17.5: events at t+1 and later change nothing about t.
func TestLater(t *testing.T) {
	rnd := rand.New(rand.NewSource(172))
	added := 0
	for range 3000 {
		list := samples.Events(rnd.Intn, 100, valid)
		last := 0
		if len(list) > 0 {
			last = list[rnd.Intn(len(list))].At
		}
		e := samples.Event(rnd.Intn, last)
		longer, err := Insert(list, e)
		if err != api.OK {
			continue
		}
		added++
		for id := range 8 {
			a, found := Account(list, id, e.At-1)
			if b, again := Account(longer, id, e.At-1); found != again || !sameAccount(a, b) {
				t.Fatalf("%+v changes account %+v to %+v", e, a, b)
			}
			s, found := Sub(list, id, e.At-1)
			if b, again := Sub(longer, id, e.At-1); found != again || !sameSub(s, b) {
				t.Fatalf("%+v changes subscription %+v to %+v", e, s, b)
			}
		}
		if !same(State(list, e.At-1), State(longer, e.At-1)) {
			t.Fatalf("%+v changes what was before", e)
		}
	}
	if added < 300 {
		t.Error(added)
	}
}

// inserted returns a list with e before the first event whose At is greater, or at the end.
func inserted(list []api.Event, e api.Event) []api.Event {
	var longer []api.Event
	done := false
	for _, other := range list {
		if other.At > e.At && !done {
			longer, done = append(longer, e), true
		}
		longer = append(longer, other)
	}
	if !done {
		longer = append(longer, e)
	}
	return longer
}

// P17.4, with R5: possible and impossible events, also for lists that are not valid.
func TestInsert(t *testing.T) {
	rnd := rand.New(rand.NewSource(173))
	found := map[api.Errno]int{}
	inner := 0
	for range 20000 {
		list := samples.Events(rnd.Intn, 80, valid)
		if rnd.Intn(10) == 0 && len(list) > 1 {
			i, j := rnd.Intn(len(list)), rnd.Intn(len(list))
			list[i], list[j] = list[j], list[i]
		}
		last := 0
		if len(list) > 0 {
			last = list[rnd.Intn(len(list))].At
		}
		e := samples.Event(rnd.Intn, last-rnd.Intn(2))
		want := inserted(list, e)
		given := samples.Spare(list, mark)
		got, err := Insert(given, e)
		_, problem := history(want).check()
		if err != problem || err == api.OK && !slices.Equal(got, want) || err != api.OK && got != nil {
			t.Fatalf("Insert(%+v, %+v) = %+v, %d, not %d", list, e, got, err, problem)
		}
		found[err]++
		if err == api.OK && got[len(got)-1] != e {
			inner++
		}
		clear(got[:cap(got)])
		if !samples.Unchanged(given, list, mark) {
			t.Fatal("the argument has changed")
		}
	}
	for _, err := range []api.Errno{api.OK, api.ErrExists, api.ErrNotFound, api.ErrClosed, api.ErrState, api.ErrNumber, api.ErrOrder, api.ErrTime} {
		if found[err] < 100 {
			t.Error("the error", err, "only", found[err])
		}
	}
	if inner < 1000 {
		t.Error("only", inner, "within the list")
	}
}

// P17.4: the greatest list, and events that no list can contain.
func TestInsertLimits(t *testing.T) {
	list := []api.Event{{Kind: api.EventOpen, Account: 1, Name: "prepaid", Value: 1}}
	topup := api.Event{At: 5, Kind: api.EventTopup, Account: 1, Value: 1}
	for len(list) < 4095 {
		list = append(list, topup)
	}
	longer, err := Insert(list, topup)
	if err != api.OK || len(longer) != 4096 {
		t.Fatal(len(longer), err)
	}
	if got, err := Insert(longer, topup); err != api.ErrTooLong || got != nil {
		t.Error(len(got), err)
	}
	for _, at := range []int{math.MinInt, -1, api.Forever, math.MaxInt} {
		if _, err := Insert(list, api.Event{At: at, Kind: api.EventClose, Account: 1}); err != api.ErrTime {
			t.Error(at, err)
		}
	}
	if got, err := Insert(nil, list[0]); err != api.OK || !slices.Equal(got, list[:1]) {
		t.Error(got, err)
	}
}

// The examples of the chapter.
func TestExamples(t *testing.T) {
	list := []api.Event{
		{At: 5, Kind: api.EventOpen, Account: 1, Name: "prepaid", Value: 15},
		{At: 5, Kind: api.EventAdd, Account: 1, Sub: 7, Name: "basic"},
		{At: 5, Kind: api.EventNumber, Sub: 7, Number: "4915"},
	}
	want := api.Customers{
		Accounts: []api.Account{{Id: 1, Since: 5, Anchor: 15, Prepaid: true, Subs: []int{7}}},
		Subs:     []api.Sub{{Id: 7, Account: 1, Since: 5, Plan: "basic", Numbers: []string{"4915"}}},
	}
	if c := State(list, 5); !same(c, want) {
		t.Errorf("%+v", c)
	}
	again := api.Event{At: 6, Kind: api.EventNumber, Sub: 8, Number: "4915"}
	list = append(list, api.Event{At: 6, Kind: api.EventAdd, Account: 1, Sub: 8, Name: "basic"})
	for _, e := range []api.Event{{At: 6, Kind: api.EventRelease, Sub: 7, Number: "4915"}, {At: 6, Kind: api.EventEnd, Sub: 7}} {
		if n, err := Check(append(slices.Clone(list), again)); n != 4 || err != api.ErrNumber {
			t.Error(n, err)
		}
		if n, err := Check(append(slices.Clone(list), e, again)); n != 0 || err != api.OK {
			t.Error(n, err)
		}
	}
	ends := []api.Event{{At: 9, Kind: api.EventEnd, Sub: 8}, {At: 9, Kind: api.EventEnd, Sub: 7}, {At: 9, Kind: api.EventClose, Account: 1}}
	if n, err := Check(append(slices.Clone(list), ends[0], ends[2])); n != 5 || err != api.ErrState {
		t.Error(n, err)
	}
	if n, err := Check(append(slices.Clone(list), ends...)); n != 0 || err != api.OK {
		t.Error(n, err)
	}
}

// R1: lists that are not valid.
func TestAnything(t *testing.T) {
	rnd := rand.New(rand.NewSource(174))
	all := changes()
	for range 20000 {
		var list []api.Event
		for range rnd.Intn(12) {
			e := samples.Event(rnd.Intn, rnd.Intn(3))
			if rnd.Intn(3) == 0 {
				some := all[rnd.Intn(len(all))]
				some[rnd.Intn(len(some))](&e)
			}
			list = append(list, e)
		}
		for _, n := range []int{math.MinInt, -1, 0, 1, 2, 7, math.MaxInt} {
			State(list, n)
			Account(list, 1, n)
			Account(list, n, 1)
			Sub(list, 1, n)
			Sub(list, n, 1)
		}
		Check(list)
		Insert(list, samples.Event(rnd.Intn, rnd.Intn(3)))
	}
}
