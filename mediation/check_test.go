package mediation

import (
	"math"
	"math/rand"
	"slices"
	"testing"

	"billing/api"
	"billing/samples"
)

// busy returns a consistent state with something in each place. The records 5 and 6 of source 1 have become part of others.
func busy() api.Mediation {
	other := text(5, "3", 150)
	other.Source = 2
	return api.Mediation{
		Intake: api.Intake{
			Seen:  []api.Range{{Source: 1, From: 1, To: 6}, {Source: 1, From: 9, To: 9}, {Source: 2, From: 5, To: 5}},
			Open:  []api.Record{part(4, 7, 1, false), part(9, 8, 2, true)},
			Heads: []api.Head{{Source: 1, Number: 1, Format: api.FormatText, Count: 4}, {Source: 2, Number: 1, Format: api.FormatTagged, Count: 2}, {Source: 1, Number: 2, Format: api.FormatPacked, Count: 4}},
		},
		Usages: []api.Usage{
			{Id: 1, Kind: api.KindText, Account: 1, Sub: 2, A: "4915", B: "33", Start: 150, Units: 2, Source: 1, Serial: 2},
			{Id: 2, Kind: api.KindVoice, Account: 9, Sub: 1, A: "33", B: "49", Start: 100, Units: 60, Trunk: 5, Inbound: true, Source: 1, Serial: 1},
		},
		Suspense: []api.Record{text(3, "4", 150), other},
		Rejects:  []api.Reject{{Source: 1, Serial: 2, Index: 3, Err: api.ErrDuplicate}, {Source: 2, Serial: 7, Index: 0, Err: api.ErrTime}},
	}
}

// change is a change of a state, and whether the state is consistent afterwards.
type change struct {
	change func(m *api.Mediation)
	want   bool
}

// testChanges tests Check for changes of one state.
func testChanges(t *testing.T, list []change) {
	t.Helper()
	for i, x := range list {
		m := busy()
		x.change(&m)
		state := given(m)
		if Check(state) != x.want {
			t.Errorf("case %d: Check(%+v) = %v", i, m, !x.want)
		}
		if !unchanged(state, m) {
			t.Error("the argument has changed")
		}
	}
}

// P22.5: the state itself, and the zero state.
func TestCheck(t *testing.T) {
	testChanges(t, []change{
		{func(m *api.Mediation) {}, true},
		{func(m *api.Mediation) { *m = api.Mediation{} }, true},
		{func(m *api.Mediation) { m.Intake = api.Intake{} }, false},
	})
}

// P22.5, condition 1: the intake. Each change keeps the other conditions.
func TestCheckIntake(t *testing.T) {
	testChanges(t, []change{
		{func(m *api.Mediation) { m.Intake.Seen[0].To, m.Intake.Heads[2].Count = 5, 3 }, true}, // one record less has become part of another
		{func(m *api.Mediation) { m.Intake.Heads[2].Number = 3 }, false},
		{func(m *api.Mediation) { m.Intake.Heads[1].Format = 0 }, false},
		{func(m *api.Mediation) { m.Intake.Heads[0].Count, m.Intake.Heads[1].Count = 3, 3 }, true},
		{func(m *api.Mediation) { m.Intake.Heads[0].Count, m.Intake.Heads[1].Count = 2, 4 }, false}, // source 1 has too few records
		{func(m *api.Mediation) { m.Intake.Heads[0].Count, m.Intake.Heads[1].Count = 11, -1 }, false},
		{func(m *api.Mediation) { m.Intake.Open[0], m.Intake.Open[1] = m.Intake.Open[1], m.Intake.Open[0] }, false},
		{func(m *api.Mediation) { m.Intake.Open[0].Last = true }, false}, // joined at once
		{func(m *api.Mediation) { m.Intake.Open[0].Units = -1 }, false},
		{func(m *api.Mediation) { m.Intake.Open[0].Call, m.Intake.Open[0].Part = 0, 0 }, false},
		{func(m *api.Mediation) {
			m.Intake.Seen = slices.Replace(m.Intake.Seen, 0, 1, api.Range{Source: 1, From: 1, To: 3}, api.Range{Source: 1, From: 4, To: 6})
		}, false},
	})
}

// P22.5, condition 2: the usages.
func TestCheckUsages(t *testing.T) {
	testChanges(t, []change{
		{func(m *api.Mediation) { m.Usages[0].Id = 0 }, false},
		{func(m *api.Mediation) { m.Usages[0].Id = 2 }, false},
		{func(m *api.Mediation) { m.Usages[1].Id = 1 }, false},
		{func(m *api.Mediation) { m.Usages[1].Id = 3 }, false},
		{func(m *api.Mediation) { m.Usages[0], m.Usages[1] = m.Usages[1], m.Usages[0] }, false},
		{func(m *api.Mediation) { m.Usages[0].Account = 0 }, false},
		{func(m *api.Mediation) { m.Usages[0].Account = -1 }, false},
		{func(m *api.Mediation) { m.Usages[0].Account = api.MaxAccount }, true},
		{func(m *api.Mediation) { m.Usages[0].Account = api.MaxAccount + 1 }, false},
		{func(m *api.Mediation) { m.Usages[1].Sub = 0 }, false},
		{func(m *api.Mediation) { m.Usages[1].Sub = api.MaxAccount }, true},
		{func(m *api.Mediation) { m.Usages[1].Sub = api.MaxAccount + 1 }, false},
		{func(m *api.Mediation) { m.Usages[0].Kind = 0 }, false},
		{func(m *api.Mediation) { m.Usages[0].Kind = api.KindContent }, true},
		{func(m *api.Mediation) { m.Usages[0].Kind = api.Kinds }, false},
		{func(m *api.Mediation) { m.Usages[0].A = "" }, false},
		{func(m *api.Mediation) { m.Usages[0].A = "1" }, true},
		{func(m *api.Mediation) { m.Usages[0].B = "" }, false},
		{func(m *api.Mediation) { m.Usages[0].B, m.Usages[0].Kind = "", api.KindData }, true},
		{func(m *api.Mediation) { m.Usages[0].B = "x" }, false},
		{func(m *api.Mediation) { m.Usages[0].Start = -1 }, false},
		{func(m *api.Mediation) { m.Usages[0].Start = api.Forever - 1 }, true},
		{func(m *api.Mediation) { m.Usages[0].Start = api.Forever }, false},
		{func(m *api.Mediation) { m.Usages[1].Start = api.Forever - 60 }, true},
		{func(m *api.Mediation) { m.Usages[1].Start = api.Forever - 59 }, false},
		{func(m *api.Mediation) { m.Usages[0].Units = -1 }, false},
		{func(m *api.Mediation) { m.Usages[0].Units = 0 }, true},
		{func(m *api.Mediation) { m.Usages[0].Units = api.MaxUnits }, true},
		{func(m *api.Mediation) { m.Usages[0].Units = api.MaxUnits + 1 }, false},
		{func(m *api.Mediation) { m.Usages[1].Units = api.MaxCall }, true},
		{func(m *api.Mediation) { m.Usages[1].Units = api.MaxCall + 1 }, false},
		{func(m *api.Mediation) { m.Usages[0].Trunk = -1 }, false},
		{func(m *api.Mediation) { m.Usages[0].Trunk = api.MaxTrunk }, true},
		{func(m *api.Mediation) { m.Usages[0].Trunk = api.MaxTrunk + 1 }, false},
		{func(m *api.Mediation) { m.Usages[0].Inbound = true }, false},
		{func(m *api.Mediation) { m.Usages[1].Trunk = 0 }, false},
		{func(m *api.Mediation) { m.Usages[1].Inbound = false }, true},
	})
}

// P22.5, condition 3: the records in suspense.
func TestCheckSuspense(t *testing.T) {
	testChanges(t, []change{
		{func(m *api.Mediation) { m.Suspense[0], m.Suspense[1] = m.Suspense[1], m.Suspense[0] }, true},
		{func(m *api.Mediation) { m.Suspense[0].Units = -1 }, false},
		{func(m *api.Mediation) { m.Suspense[1].A = "" }, false},
		{func(m *api.Mediation) { m.Suspense[1].Call = 1 }, false},
		{func(m *api.Mediation) { m.Suspense[1].Part = 1 }, false},
		{func(m *api.Mediation) { m.Suspense[1].Call, m.Suspense[1].Part = 1, 1 }, false},
		{func(m *api.Mediation) { m.Suspense[1].Call, m.Suspense[1].Part, m.Suspense[1].Last = 1, 1, true }, false},
		{func(m *api.Mediation) { m.Suspense[1].Last = true }, false},
		{func(m *api.Mediation) { m.Suspense[1].A = "4915" }, true}, // who has the number makes no difference here
	})
}

// P22.5, condition 4: the serial numbers in all places are seen, each in one of them.
func TestCheckSeen(t *testing.T) {
	testChanges(t, []change{
		{func(m *api.Mediation) { m.Usages[0].Serial = 5 }, true},
		{func(m *api.Mediation) { m.Usages[0].Serial = 7 }, false},
		{func(m *api.Mediation) { m.Usages[0].Source, m.Usages[0].Serial = 2, 2 }, false},
		{func(m *api.Mediation) { m.Usages[0].Serial = 1 }, false}, // another usage
		{func(m *api.Mediation) { m.Usages[0].Serial = 3 }, false}, // a record in suspense
		{func(m *api.Mediation) { m.Usages[0].Serial = 9 }, false}, // an open part
		{func(m *api.Mediation) { m.Usages[0].Source, m.Usages[0].Serial = 2, 5 }, false},
		{func(m *api.Mediation) { m.Suspense[0].Serial = 6 }, true},
		{func(m *api.Mediation) { m.Suspense[0].Serial = 8 }, false},
		{func(m *api.Mediation) { m.Suspense[1].Source = 1 }, true}, // 5 of source 1 is in no place
		{func(m *api.Mediation) { m.Suspense[1].Source = 3 }, false},
		{func(m *api.Mediation) { m.Suspense[0].Source, m.Suspense[0].Serial = 2, 5 }, false},
		{func(m *api.Mediation) { m.Suspense[0].Serial = 4 }, false}, // an open part
		{func(m *api.Mediation) { m.Suspense[1].Source, m.Suspense[1].Serial = 1, 1 }, false},
		{func(m *api.Mediation) { m.Intake.Open[0].Serial = 5 }, true},
		{func(m *api.Mediation) { m.Intake.Open[0].Serial = 8 }, false},
		{func(m *api.Mediation) { m.Intake.Open[0].Serial = 9 }, false},
		{func(m *api.Mediation) { m.Intake.Open[0].Serial = 2 }, false},
		{func(m *api.Mediation) { m.Intake.Open[0].Serial = 3 }, false},
	})
}

// P22.5, conditions 5 and 6: the rejects, and the balance.
func TestCheckBalance(t *testing.T) {
	reject := api.Reject{Source: 1, Serial: 1, Err: api.ErrDuplicate}
	testChanges(t, []change{
		{func(m *api.Mediation) { m.Rejects[0].Err = api.ErrTime }, true},
		{func(m *api.Mediation) { m.Rejects[0].Err = api.OK }, false},
		{func(m *api.Mediation) { m.Rejects[1].Err = api.ErrRange }, false},
		{func(m *api.Mediation) { m.Rejects[1].Err = -1 }, false},
		{func(m *api.Mediation) { m.Rejects[1] = api.Reject{Source: -1, Serial: -1, Index: -1, Err: api.ErrTime} }, true},
		{func(m *api.Mediation) { m.Rejects[0], m.Rejects[1] = m.Rejects[1], m.Rejects[0] }, true},
		{func(m *api.Mediation) { m.Rejects = append(m.Rejects, reject) }, false},
		{func(m *api.Mediation) { m.Rejects = m.Rejects[:1] }, false},
		{func(m *api.Mediation) { m.Rejects, m.Intake.Heads[1].Count = append(m.Rejects, reject), 3 }, true},
		{func(m *api.Mediation) { m.Intake.Heads[0].Count++ }, false},
		{func(m *api.Mediation) { m.Intake.Heads[1].Count-- }, false},
		{func(m *api.Mediation) { m.Intake.Seen[2].From-- }, false},
		{func(m *api.Mediation) { m.Intake.Seen[2].From--; m.Intake.Heads[1].Count++ }, true},
		// What is in no other place counts as a part of another record.
		{func(m *api.Mediation) { m.Usages = m.Usages[:1] }, true},
		{func(m *api.Mediation) { m.Suspense = nil }, true},
		{func(m *api.Mediation) { m.Intake.Open = nil }, true},
		{func(m *api.Mediation) { m.Usages, m.Suspense, m.Intake.Open = nil, nil, nil }, true},
	})
}

// anything returns a state that need not be consistent.
func anything(rnd *rand.Rand) api.Mediation {
	number := func() int {
		return []int{math.MinInt, -1, 0, 1, 2, 3, api.MaxSource, api.MaxSerial, math.MaxInt}[rnd.Intn(9)]
	}
	m := api.Mediation{}
	if rnd.Intn(2) == 0 {
		m = busy()
	}
	for range rnd.Intn(4) {
		m.Intake.Seen = append(m.Intake.Seen, api.Range{Source: number(), From: number(), To: number()})
		m.Intake.Heads = append(m.Intake.Heads, api.Head{Source: number(), Number: number(), Format: number(), Count: number()})
		m.Intake.Open = append(m.Intake.Open, part(number(), number(), number(), rnd.Intn(2) == 0), samples.Record(rnd.Intn))
		m.Usages = append(m.Usages, api.Usage{Id: number(), Kind: number(), Account: number(), Sub: number(), A: "1", B: "2", Start: number(), Units: number(), Source: number(), Serial: number()})
		m.Suspense = append(m.Suspense, samples.Record(rnd.Intn))
		m.Rejects = append(m.Rejects, api.Reject{Source: number(), Serial: number(), Index: number(), Err: api.Errno(number())})
	}
	return m
}

// R1: states that are not consistent, and lists of events that are not valid.
func TestAnything(t *testing.T) {
	rnd := rand.New(rand.NewSource(220))
	taken := 0
	for range 5000 {
		m := anything(rnd)
		var events []api.Event
		for range rnd.Intn(10) {
			events = append(events, samples.Event(rnd.Intn, rnd.Intn(40)))
		}
		Check(m)
		Balance(m)
		Retry(events, m)
		Close(events, m, rnd.Intn(300))
		if _, err := Feed(events, m, someBatch(rnd, m.Intake, 40), always); err == api.OK {
			taken++
		}
	}
	if taken < 1000 {
		t.Error(taken)
	}
}
