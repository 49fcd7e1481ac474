package mediation

import (
	"math/rand"
	"slices"

	"billing/api"
	"billing/correlate"
	"billing/customer"
	"billing/enrich"
	"billing/intake"
	"billing/samples"
)

// model is a state of the mediation that takes records one by one, with all the records that were read.
type model struct {
	api.Mediation
	read []api.Record
}

// place places a whole record as the chapter says it.
func (m *model) place(events []api.Event, r api.Record) {
	if u, err := enrich.Usage(events, r, len(m.Usages)+1); err == api.OK {
		m.Usages = append(m.Usages, u)
	} else {
		m.Suspense = append(m.Suspense, r)
	}
}

// feed takes a batch as the chapter says it.
func (m *model) feed(events []api.Event, b api.Batch, w api.Window) api.Errno {
	in, wholes, rejects, err := intake.Accept(m.Intake, b, w)
	if err != api.OK {
		return err
	}
	m.Intake = in
	for _, r := range wholes {
		m.place(events, r)
	}
	m.Rejects = append(m.Rejects, rejects...)
	m.read = append(m.read, b.Records...)
	return api.OK
}

// retry places the records in suspense again.
func (m *model) retry(events []api.Event) {
	waiting := m.Suspense
	m.Suspense = nil
	for _, r := range waiting {
		m.place(events, r)
	}
}

// close ends calls without progress.
func (m *model) close(events []api.Event, before int) {
	in, wholes := intake.Close(m.Intake, before)
	m.Intake = in
	for _, r := range wholes {
		m.place(events, r)
	}
}

// balance counts the records that were read, and where they are; those that are nowhere else have become part of another one.
func (m *model) balance() api.Balance {
	b := api.Balance{Read: len(m.read), Accepted: len(m.Usages), Rejected: len(m.Rejects), Suspended: len(m.Suspense), Open: len(m.Intake.Open)}
	b.Merged = b.Read - b.Accepted - b.Rejected - b.Suspended - b.Open
	return b
}

// same reports whether two states have the same elements.
func same(a, b api.Mediation) bool {
	return slices.Equal(a.Intake.Seen, b.Intake.Seen) && slices.Equal(a.Intake.Open, b.Intake.Open) && slices.Equal(a.Intake.Heads, b.Intake.Heads) &&
		slices.Equal(a.Usages, b.Usages) && slices.Equal(a.Suspense, b.Suspense) && slices.Equal(a.Rejects, b.Rejects)
}

// Marks fill the spare capacity of arguments.
var (
	markEvent  = api.Event{At: -7}
	markRange  = api.Range{Source: -7}
	markRecord = api.Record{Source: -7}
	markHead   = api.Head{Source: -7}
	markUsage  = api.Usage{Id: -7}
	markReject = api.Reject{Source: -7}
)

// given returns a copy of a state whose lists have spare capacity.
func given(m api.Mediation) api.Mediation {
	return api.Mediation{
		Intake: api.Intake{
			Seen:  samples.Spare(m.Intake.Seen, markRange),
			Open:  samples.Spare(m.Intake.Open, markRecord),
			Heads: samples.Spare(m.Intake.Heads, markHead),
		},
		Usages:   samples.Spare(m.Usages, markUsage),
		Suspense: samples.Spare(m.Suspense, markRecord),
		Rejects:  samples.Spare(m.Rejects, markReject),
	}
}

// unchanged reports whether a state that given has returned is as it was, with the spare capacity of its lists.
func unchanged(m, original api.Mediation) bool {
	return samples.Unchanged(m.Intake.Seen, original.Intake.Seen, markRange) &&
		samples.Unchanged(m.Intake.Open, original.Intake.Open, markRecord) &&
		samples.Unchanged(m.Intake.Heads, original.Intake.Heads, markHead) &&
		samples.Unchanged(m.Usages, original.Usages, markUsage) &&
		samples.Unchanged(m.Suspense, original.Suspense, markRecord) &&
		samples.Unchanged(m.Rejects, original.Rejects, markReject)
}

// erase overwrites the memory of a state. It reports whether none of its lists has changed by the erasure of another one.
func erase(m api.Mediation) bool {
	original := given(m)
	clear(m.Intake.Open[:cap(m.Intake.Open)])
	apart := slices.Equal(m.Suspense, original.Suspense)
	clear(m.Suspense[:cap(m.Suspense)])
	clear(m.Intake.Seen[:cap(m.Intake.Seen)])
	clear(m.Intake.Heads[:cap(m.Intake.Heads)])
	clear(m.Usages[:cap(m.Usages)])
	clear(m.Rejects[:cap(m.Rejects)])
	return apart
}

// someEvents returns a valid list of events in which two numbers belong to subscriptions at first.
func someEvents(rnd *rand.Rand) []api.Event {
	list := []api.Event{
		{Kind: api.EventOpen, Account: 1, Name: "postpaid", Value: 1},
		{Kind: api.EventAdd, Account: 1, Sub: 1, Name: "basic"},
		{Kind: api.EventAdd, Account: 1, Sub: 2, Name: "plus"},
		{Kind: api.EventNumber, Sub: 1, Number: "4915"},
		{At: 3, Kind: api.EventNumber, Sub: 2, Number: "49"},
	}
	last := 3
	for range rnd.Intn(40) {
		e := samples.Event(rnd.Intn, last)
		if longer, err := customer.Insert(list, e); err == api.OK {
			list, last = longer, e.At
		}
	}
	return list
}

// balanced reports whether the units of all records that were read are those of the usages, of the waiting records, of the open parts, and of the records that were rejected.
func balanced(m api.Mediation, read, rejected []api.Record) bool {
	all := slices.Concat(m.Suspense, m.Intake.Open, rejected)
	for _, u := range m.Usages {
		all = append(all, api.Record{Kind: u.Kind, Units: u.Units})
	}
	return correlate.Units(all) == correlate.Units(read)
}

// someBatch returns a batch with the next number of its source, or, seldom, another one, or with an error. Its records are between the numbers of the samples, and begin at instants up to last.
func someBatch(rnd *rand.Rand, in api.Intake, last int) api.Batch {
	source := 1 + rnd.Intn(3)
	b := api.Batch{Source: source, Number: intake.Next(in, source), Format: 1 + rnd.Intn(3)}
	for range rnd.Intn(12) {
		r := api.Record{Source: source, Serial: 1 + rnd.Intn(80), Kind: 1 + rnd.Intn(4), Start: rnd.Intn(last + 1), Units: rnd.Intn(100)}
		r.A, r.B = number(rnd), number(rnd)
		if rnd.Intn(3) == 0 {
			r.Trunk, r.Inbound = 1+rnd.Intn(9), true
		}
		if rnd.Intn(2) == 0 { // parts of few calls, which can be joined if they agree
			r.Call, r.Part, r.Last = 1+rnd.Intn(2), 1+rnd.Intn(3), rnd.Intn(3) == 0
			r.Kind, r.A, r.B, r.Trunk, r.Inbound = api.KindVoice, "4915", "49", 0, false
		}
		b.Records = append(b.Records, r)
	}
	switch rnd.Intn(30) {
	case 0:
		b.Number += rnd.Intn(5) - 2
	case 1:
		b.Format = 4
	case 2:
		b.Records = append(b.Records, api.Record{Source: source})
	}
	return b
}

// number returns one of the numbers of the samples, or another one.
func number(rnd *rand.Rand) string {
	return []string{"4915", "49", "33123456789", "491"}[rnd.Intn(4)]
}
