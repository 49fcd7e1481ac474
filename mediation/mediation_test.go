package mediation

import (
	"math"
	"math/rand"
	"slices"
	"testing"

	"billing/api"
	"billing/customer"
	"billing/enrich"
	"billing/samples"
)

// always is a window that contains all instants.
var always = api.Window{Earliest: 0, Latest: api.Forever}

// opened is a valid list of events: the subscription 2 has the number 4915 from 100 on.
func opened(more ...api.Event) []api.Event {
	return append([]api.Event{
		{Kind: api.EventOpen, Account: 1, Name: "postpaid", Value: 1},
		{Kind: api.EventAdd, Account: 1, Sub: 2, Name: "basic"},
		{At: 100, Kind: api.EventNumber, Sub: 2, Number: "4915"},
	}, more...)
}

// text is a whole record of source 1.
func text(serial int, a string, start int) api.Record {
	return api.Record{Source: 1, Serial: serial, Kind: api.KindText, A: a, B: "2", Start: start, Units: 1}
}

// part is a part of a call of source 1, from the number 4915.
func part(serial, call, number int, last bool) api.Record {
	return api.Record{Source: 1, Serial: serial, Kind: api.KindText, A: "4915", B: "2", Start: 150, Units: 1, Call: call, Part: number, Last: last}
}

// file is a batch of source 1.
func file(number int, list ...api.Record) api.Batch {
	return api.Batch{Source: 1, Number: number, Format: api.FormatText, Records: list}
}

// feed returns the state after a batch, which must be taken.
func feed(t *testing.T, events []api.Event, m api.Mediation, b api.Batch) api.Mediation {
	t.Helper()
	next, err := Feed(events, m, b, always)
	if err != api.OK {
		t.Fatal("Feed:", err)
	}
	return next
}

// history is a mediation under a list of events that grows, with what was found on the way.
type history struct {
	t        *testing.T
	rnd      *rand.Rand
	events   []api.Event
	want     model
	rejected []api.Record // the rejected ones of all records that were read
	errors   map[api.Errno]int
	resumed  int // records that left the suspense
	ended    int // parts that are no longer open since their calls were closed
}

// step takes one step of the mediation and of the model, and compares them. It tests what is promised for every state that is returned (P22.6, W1) and for the arguments (R5).
func (h *history) step(what string, take func(events []api.Event, m api.Mediation) api.Mediation, model func()) {
	h.t.Helper()
	before := given(h.want.Mediation) // so that the model has memory of its own
	events, state := samples.Spare(h.events, markEvent), given(before)
	next := take(events, state)
	model()
	if !same(next, h.want.Mediation) {
		h.t.Fatalf("%s of %+v under %+v is %+v, not %+v", what, before, h.events, next, h.want.Mediation)
	}
	if !Check(next) || !balanced(next, h.want.read, h.rejected) {
		h.t.Fatalf("%s of %+v: %+v is not consistent", what, before, next)
	}
	if b := Balance(next); b != h.want.balance() || b.Merged < 0 {
		h.t.Fatalf("%s: the balance of %+v is %+v, not %+v", what, next, b, h.want.balance())
	}
	if !erase(next) {
		h.t.Fatal("results share memory")
	}
	if !unchanged(state, before) || !samples.Unchanged(events, h.events, markEvent) {
		h.t.Fatal("an argument has changed")
	}
}

// feed takes some batch; one that is refused must return the zero state.
func (h *history) feed() {
	b := someBatch(h.rnd, h.want.Intake, h.last())
	w := api.Window{Earliest: h.rnd.Intn(3), Latest: h.last() - h.rnd.Intn(3)}
	list := samples.Spare(b.Records, markRecord)
	refused := false
	h.step("Feed", func(events []api.Event, m api.Mediation) api.Mediation {
		next, err := Feed(events, m, api.Batch{Source: b.Source, Number: b.Number, Format: b.Format, Records: list}, w)
		h.errors[err]++
		refused = err != api.OK
		if refused && !same(next, api.Mediation{}) {
			h.t.Fatal("Feed:", next, err)
		}
		if refused {
			return given(m)
		}
		return next
	}, func() {
		old := len(h.want.Rejects)
		if err := h.want.feed(h.events, b, w); (err != api.OK) != refused {
			h.t.Fatal("Feed:", err)
		}
		for _, r := range h.want.Rejects[old:] {
			h.rejected = append(h.rejected, b.Records[r.Index])
		}
	})
	if !samples.Unchanged(list, b.Records, markRecord) {
		h.t.Fatal("the batch has changed")
	}
}

// retry examines the waiting records again, twice (P22.8).
func (h *history) retry() {
	waiting, usages := h.want.Suspense, slices.Clone(h.want.Usages)
	h.step("Retry", Retry, func() { h.want.retry(h.events) })
	once := given(h.want.Mediation)
	h.step("Retry again", Retry, func() {})
	if !slices.Equal(once.Usages[:len(usages)], usages) {
		h.t.Fatal("Retry has changed usages:", once)
	}
	var still []api.Record
	for _, r := range waiting {
		if _, err := enrich.Usage(h.events, r, 0); err != api.OK {
			still = append(still, r)
		}
	}
	if !slices.Equal(h.want.Suspense, still) {
		h.t.Fatal("waiting:", h.want.Suspense, "and not", still)
	}
	h.resumed += len(waiting) - len(still)
}

// close ends calls without progress.
func (h *history) close() {
	before := []int{math.MinInt, h.rnd.Intn(h.last()), h.last(), math.MaxInt}[h.rnd.Intn(4)]
	open := len(h.want.Intake.Open)
	h.step("Close", func(events []api.Event, m api.Mediation) api.Mediation { return Close(events, m, before) }, func() { h.want.close(h.events, before) })
	h.ended += open - len(h.want.Intake.Open)
}

// event inserts a customer event at any time of the past, if that is possible: most often one about who has a number.
func (h *history) event() {
	e := samples.Event(h.rnd.Intn, 0)
	if h.rnd.Intn(3) > 0 {
		e = api.Event{Kind: api.EventNumber, Sub: 1 + h.rnd.Intn(5), Number: number(h.rnd)}
	}
	e.At = h.rnd.Intn(h.last())
	if list, err := customer.Insert(h.events, e); err == api.OK {
		h.events = list
	}
}

// last returns an instant soon after the last event.
func (h *history) last() int {
	return h.events[len(h.events)-1].At + 5
}

// P22.1 to P22.4, P22.6 and P22.8, with W1, R3 and R5: histories of batches, events, calls that are closed, and records that are examined again.
func TestHistory(t *testing.T) {
	rnd := rand.New(rand.NewSource(22))
	errors, total := map[api.Errno]int{}, api.Balance{}
	resumed, ended := 0, 0
	for range 800 {
		h := &history{t: t, rnd: rnd, errors: errors}
		h.events = someEvents(rnd)
		for range rnd.Intn(30) {
			switch n := rnd.Intn(10); {
			case n < 4:
				h.feed()
			case n < 7:
				h.event()
			case n < 9:
				h.retry()
			default:
				h.close()
			}
		}
		b := h.want.balance()
		total.Accepted += b.Accepted
		total.Merged += b.Merged
		total.Rejected += b.Rejected
		total.Suspended += b.Suspended
		total.Open += b.Open
		resumed, ended = resumed+h.resumed, ended+h.ended
	}
	if total.Accepted < 2000 || total.Merged < 200 || total.Rejected < 1000 || total.Suspended < 1000 || total.Open < 500 || resumed < 100 || ended < 200 {
		t.Error(total, resumed, ended)
	}
	for _, err := range []api.Errno{api.OK, api.ErrSequence, api.ErrKind, api.ErrRange} {
		if errors[err] < 30 {
			t.Error("error", err, "only", errors[err])
		}
	}
}

// P22.1: the errors of intake.Accept, in their order, with the zero state.
func TestFeedErrors(t *testing.T) {
	m := feed(t, opened(), api.Mediation{}, file(1, text(1, "4915", 150), text(2, "3", 150)))
	b := api.Batch{Records: []api.Record{text(3, "x", -1)}}
	for i, x := range []struct {
		want   api.Errno
		repair func()
	}{
		{api.ErrRange, func() { b.Source = 1 }},
		{api.ErrRange, func() { b.Number = 1 }},
		{api.ErrKind, func() { b.Format = api.FormatPacked }},
		{api.ErrNumber, func() { b.Records[0].A = "4915" }},
		{api.ErrTime, func() { b.Records[0].Start = 150 }},
		{api.ErrSequence, func() { b.Number = 3 }},
		{api.ErrSequence, func() { b.Number = 2 }},
		{api.OK, func() {}},
	} {
		next, err := Feed(opened(), m, b, always)
		if err != x.want || err != api.OK && !same(next, api.Mediation{}) || err == api.OK && len(next.Usages) != 2 {
			t.Errorf("case %d: Feed = %+v, %v, not %v", i, next, err, x.want)
		}
		x.repair()
	}
}

// Example 1; P22.1, P22.2 and P22.8.
func TestWaiting(t *testing.T) {
	q := text(2, "3", 150)
	m := feed(t, opened(), api.Mediation{}, file(1, text(1, "4915", 150), q))
	if Balance(m) != (api.Balance{Read: 2, Accepted: 1, Suspended: 1}) || m.Usages[0].Id != 1 || m.Usages[0].Serial != 1 || !slices.Equal(m.Suspense, []api.Record{q}) {
		t.Error(m)
	}
	late := Retry(opened(api.Event{At: 151, Kind: api.EventNumber, Sub: 2, Number: "3"}), m)
	if !same(late, m) {
		t.Error("the number came too late:", late)
	}
	events := opened(api.Event{At: 150, Kind: api.EventNumber, Sub: 2, Number: "3"})
	now := Retry(events, m)
	want := api.Usage{Id: 2, Kind: api.KindText, Account: 1, Sub: 2, A: "3", B: "2", Start: 150, Units: 1, Source: 1, Serial: 2}
	if len(now.Suspense) != 0 || !slices.Equal(now.Usages, []api.Usage{m.Usages[0], want}) || Balance(now) != (api.Balance{Read: 2, Accepted: 2}) {
		t.Error(now)
	}
	if again := Retry(events, now); !same(again, now) {
		t.Error(again)
	}
	// What is a usage remains one, even if its subscription does not have the number any more.
	if gone := Retry(nil, now); !same(gone, now) {
		t.Error(gone)
	}
}

// P22.1 and P22.2: the order of usages and of waiting records, also of those of a suspended subscription, and of rejects.
func TestOrder(t *testing.T) {
	events := opened(api.Event{At: 200, Kind: api.EventSuspend, Sub: 2})
	came := api.Record{Source: 1, Serial: 5, Kind: api.KindText, A: "7", B: "4915", Start: 200, Units: 1, Trunk: 1, Inbound: true}
	m := feed(t, events, api.Mediation{}, file(1, text(9, "4915", 200), text(8, "4915", 199), text(7, "5", 100), came, text(9, "6", 0), text(4, "4915", 100), text(3, "4915", 99)))
	m = feed(t, events, m, file(2, text(8, "4915", 150), text(2, "4915", 210), text(1, "4915", 150)))
	if serials(m) != [5]int{8, 5, 4, 1} || !slices.Equal(m.Suspense, []api.Record{text(9, "4915", 200), text(7, "5", 100), text(3, "4915", 99), text(2, "4915", 210)}) {
		t.Error(m)
	}
	if !slices.Equal(m.Rejects, []api.Reject{{Source: 1, Serial: 9, Index: 4, Err: api.ErrDuplicate}, {Source: 1, Serial: 8, Index: 0, Err: api.ErrDuplicate}}) {
		t.Error(m.Rejects)
	}
	m = Retry(opened(), m)
	if serials(m) != [5]int{8, 5, 4, 1, 9} || len(m.Usages) != 6 || m.Usages[5].Serial != 2 || m.Usages[5].Id != 6 || !slices.Equal(m.Suspense, []api.Record{text(7, "5", 100), text(3, "4915", 99)}) {
		t.Error(m)
	}
}

// serials returns the serial numbers of the first usages.
func serials(m api.Mediation) [5]int {
	var list [5]int
	for i, u := range m.Usages[:min(len(m.Usages), len(list))] {
		list[i] = u.Serial
	}
	return list
}

// Example 2; P22.3.
func TestMerged(t *testing.T) {
	m := feed(t, opened(), api.Mediation{}, file(1, part(1, 5, 1, false), part(2, 5, 2, true)))
	if Balance(m) != (api.Balance{Read: 2, Accepted: 1, Merged: 1}) || m.Usages[0].Units != 2 || m.Usages[0].Serial != 1 {
		t.Error(m)
	}
	m = feed(t, opened(), m, file(2, part(9, 6, 4, true), part(8, 6, 1, false), part(7, 6, 2, false), part(6, 7, 1, false)))
	if Balance(m) != (api.Balance{Read: 6, Accepted: 1, Merged: 1, Open: 4}) || len(m.Usages) != 1 {
		t.Error(m)
	}
	if same := Close(opened(), m, 150); Balance(same) != Balance(m) {
		t.Error(same)
	}
	// The chain of the first call is a usage, and so is its last part; the second call has no customer.
	m.Intake.Open[3].A = "3"
	m = Close(opened(), m, 151)
	if Balance(m) != (api.Balance{Read: 6, Accepted: 3, Merged: 2, Suspended: 1}) || m.Usages[1].Serial != 8 || m.Usages[1].Units != 2 || m.Usages[2].Serial != 9 || m.Usages[2].Id != 3 || m.Suspense[0].Serial != 6 || !Check(m) {
		t.Error(m)
	}
	if w := m.Suspense[0]; w.Part != 0 || w.Call != 0 {
		t.Error("the waiting record is not whole:", w)
	}
}

// P22.7: a batch that is fed twice, with its number and with the next one.
func TestTwice(t *testing.T) {
	b := file(1, text(1, "4915", 150), text(2, "3", 150), part(3, 5, 1, false), part(4, 6, 1, false), part(5, 6, 2, true), text(6, "4915", 90))
	w := api.Window{Earliest: 100, Latest: 150}
	m, err := Feed(opened(), api.Mediation{}, b, w)
	if err != api.OK || Balance(m) != (api.Balance{Read: 6, Accepted: 2, Merged: 1, Rejected: 1, Suspended: 1, Open: 1}) {
		t.Fatal(m, err)
	}
	if again, err := Feed(opened(), m, b, w); err != api.ErrSequence || !same(again, api.Mediation{}) {
		t.Error(again, err)
	}
	b.Number = 2
	again, err := Feed(opened(), m, b, w)
	if err != api.OK || Balance(again) != (api.Balance{Read: 12, Accepted: 2, Merged: 1, Rejected: 7, Suspended: 1, Open: 1}) {
		t.Error(again, err)
	}
	if !slices.Equal(again.Usages, m.Usages) || !slices.Equal(again.Suspense, m.Suspense) || !slices.Equal(again.Intake.Open, m.Intake.Open) || !slices.Equal(again.Intake.Seen, m.Intake.Seen) {
		t.Error(again)
	}
}

// P22.1 to P22.3: the zero state, and an empty batch.
func TestZero(t *testing.T) {
	if m := Retry(opened(), api.Mediation{}); !same(m, api.Mediation{}) {
		t.Error(m)
	}
	if m := Close(opened(), api.Mediation{}, math.MaxInt); !same(m, api.Mediation{}) {
		t.Error(m)
	}
	if m := feed(t, nil, api.Mediation{}, file(1)); !same(m, api.Mediation{Intake: api.Intake{Heads: []api.Head{{Source: 1, Number: 1, Format: api.FormatText}}}}) || !Check(m) {
		t.Error(m)
	}
}

// P22.4: states that need not be consistent.
func TestBalance(t *testing.T) {
	if b := Balance(api.Mediation{}); b != (api.Balance{}) {
		t.Error(b)
	}
	m := api.Mediation{
		Intake: api.Intake{
			Seen:  []api.Range{{Source: 1, From: 1, To: 3}, {Source: 99, From: api.MaxSerial, To: api.MaxSerial}},
			Open:  make([]api.Record, 5),
			Heads: []api.Head{{Count: 7}, {Count: 0}, {Source: -1, Count: api.MaxRecords}},
		},
		Usages: make([]api.Usage, 11), Suspense: make([]api.Record, 13), Rejects: make([]api.Reject, 17),
	}
	if b := Balance(m); b != (api.Balance{Read: 7 + api.MaxRecords, Accepted: 11, Merged: 4 - 11 - 13 - 5, Rejected: 17, Suspended: 13, Open: 5}) {
		t.Error(b)
	}
	m = api.Mediation{Intake: api.Intake{Seen: []api.Range{{Source: 1, From: 1, To: api.MaxSerial}, {Source: 2, From: 1, To: api.MaxSerial}}}}
	for range api.MaxRecords {
		m.Intake.Heads = append(m.Intake.Heads, api.Head{Count: api.MaxRecords})
	}
	if b := Balance(m); b != (api.Balance{Read: api.MaxRecords * api.MaxRecords, Merged: 2 * api.MaxSerial}) {
		t.Error(b)
	}
}
