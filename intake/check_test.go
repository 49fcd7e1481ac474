package intake

import (
	"math"
	"math/rand"
	"slices"
	"testing"

	"billing/api"
	"billing/samples"
)

// busy returns a consistent state: the sources 1 and 2 have delivered batches, and parts of two calls are open.
func busy() api.Intake {
	other := part(9, 2, true)
	other.Call = 8
	return api.Intake{
		Seen:  []api.Range{{Source: 1, From: 1, To: 3}, {Source: 1, From: 9, To: 9}, {Source: 2, From: 5, To: 5}},
		Open:  []api.Record{part(3, 1, false), part(1, 3, true), other},
		Heads: []api.Head{{Source: 1, Number: 1, Format: api.FormatText, Count: 3}, {Source: 2, Number: 1, Format: api.FormatPacked, Count: api.MaxRecords}, {Source: 1, Number: 2, Format: api.FormatTagged, Count: 1}},
	}
}

// P16.4: changes of one state, each of which breaks one condition or none.
func TestCheck(t *testing.T) {
	for i, x := range []struct {
		change func(in *api.Intake)
		want   bool
	}{
		{func(in *api.Intake) {}, true},
		{func(in *api.Intake) { *in = api.Intake{} }, true},
		// Seen is canonical.
		{func(in *api.Intake) { in.Seen[2].Source = 0 }, false},
		{func(in *api.Intake) { in.Seen[2] = api.Range{Source: 2, From: 6, To: 5} }, false},
		{func(in *api.Intake) { in.Seen[0], in.Seen[1] = in.Seen[1], in.Seen[0] }, false},
		{func(in *api.Intake) {
			in.Seen = slices.Replace(in.Seen, 0, 1, api.Range{Source: 1, From: 1, To: 2}, api.Range{Source: 1, From: 3, To: 3})
		}, false},
		{func(in *api.Intake) { in.Seen[2] = api.Range{Source: 2, From: api.MaxSerial, To: api.MaxSerial} }, true},
		// Open is an open list.
		{func(in *api.Intake) { in.Open[0], in.Open[1] = in.Open[1], in.Open[0] }, false},
		{func(in *api.Intake) { in.Open[0], in.Open[2] = in.Open[2], in.Open[0] }, false},
		{func(in *api.Intake) { in.Open[0].Units = -1 }, false},
		{func(in *api.Intake) { in.Open[0].Call, in.Open[0].Part = 0, 0 }, false},
		{func(in *api.Intake) { in.Open[0].Last = true }, false}, // joined at once
		{func(in *api.Intake) { in.Open[1].Part = 2 }, false},    // the call is complete
		{func(in *api.Intake) { in.Open[1].Part, in.Open[1].A = 2, "3" }, true},
		{func(in *api.Intake) { in.Open[1].Part, in.Open[1].Last = 2, false }, true},
		{func(in *api.Intake) { in.Open[1].Part, in.Open[1].Last = 1, false }, true},
		{func(in *api.Intake) { in.Open[2].Call = 7 }, false},
		{func(in *api.Intake) { in.Open[0].Units = api.MaxCall }, true},
		// The serial numbers of open parts are seen, each once.
		{func(in *api.Intake) { in.Open[0].Serial = 2 }, true},
		{func(in *api.Intake) { in.Open[0].Serial = 4 }, false},
		{func(in *api.Intake) { in.Open[0].Serial = 5 }, false}, // seen, but of another source
		{func(in *api.Intake) { in.Open[0].Serial = 1 }, false},
		{func(in *api.Intake) { in.Open[2].Serial = 1 }, false},
		{func(in *api.Intake) { in.Open[2].Source, in.Open[2].Serial = 2, 5 }, true},
		{func(in *api.Intake) { in.Open[2].Source, in.Open[2].Serial = 2, 9 }, false},
		// Each header is that of a batch.
		{func(in *api.Intake) { in.Heads[1].Format = 0 }, false},
		{func(in *api.Intake) { in.Heads[1].Format = 4 }, false},
		{func(in *api.Intake) { in.Heads[1].Count = api.MaxRecords + 1 }, false},
		{func(in *api.Intake) { in.Heads[1].Count = -1 }, false},
		{func(in *api.Intake) { in.Heads[1].Number = 2 }, false},
		{func(in *api.Intake) { in.Heads[1].Number = 0 }, false},
		{func(in *api.Intake) { in.Heads[2].Number = 1 }, false},
		{func(in *api.Intake) { in.Heads[2].Number = 3 }, false},
		{func(in *api.Intake) { in.Heads[2].Source = 2 }, false}, // the source 1 has too few records
		{func(in *api.Intake) { in.Heads[1], in.Heads[2] = in.Heads[2], in.Heads[1] }, true},
		{func(in *api.Intake) { in.Heads[0], in.Heads[2] = in.Heads[2], in.Heads[0] }, false},
		{func(in *api.Intake) { in.Heads = append(in.Heads, api.Head{Source: 99, Number: 1, Format: 1}) }, true},
		{func(in *api.Intake) { in.Heads = append(in.Heads, api.Head{Source: 100, Number: 1, Format: 1}) }, false},
		{func(in *api.Intake) { in.Heads = append(in.Heads, api.Head{Source: 0, Number: 0, Format: 1}) }, false},
		// There are no more serial numbers than records of the source.
		{func(in *api.Intake) { in.Heads[0].Count = 2 }, false},
		{func(in *api.Intake) { in.Heads[0].Count, in.Heads[2].Count = 0, 4 }, true},
		{func(in *api.Intake) { in.Heads[2].Count = api.MaxRecords }, true},
		{func(in *api.Intake) { in.Heads[1].Count = 0 }, false},
		{func(in *api.Intake) { in.Heads[1].Count = 1 }, true},
		{func(in *api.Intake) { in.Seen[1].To = 10 }, false},
		{func(in *api.Intake) { in.Seen[2].To = 4 + api.MaxRecords }, true},
		{func(in *api.Intake) { in.Seen[2].To = 5 + api.MaxRecords }, false},
		{func(in *api.Intake) { in.Seen = append(in.Seen, api.Range{Source: 3, From: 1, To: 1}) }, false},
		{func(in *api.Intake) { in.Heads = nil }, false},
		{func(in *api.Intake) { in.Open = nil }, true},
		{func(in *api.Intake) { in.Seen = nil }, false},
		{func(in *api.Intake) { in.Seen, in.Open = nil, nil }, true},
	} {
		in := busy()
		x.change(&in)
		state := given(in)
		if Check(state) != x.want {
			t.Errorf("case %d: Check(%+v) = %v", i, in, !x.want)
		}
		if !unchanged(state, in) {
			t.Error("the argument has changed")
		}
	}
}

// P16.4: all lists of up to four headers, whose numbers may be those of their sources or not.
func TestCheckHeads(t *testing.T) {
	var all []api.Head
	for source := 1; source <= 2; source++ {
		for number := 1; number <= 3; number++ {
			all = append(all, api.Head{Source: source, Number: number, Format: 1})
		}
	}
	good := 0
	var test func(list []api.Head)
	test = func(list []api.Head) {
		want := true
		batches := map[int]int{}
		for _, h := range list {
			batches[h.Source]++
			want = want && h.Number == batches[h.Source]
		}
		if Check(api.Intake{Heads: list}) != want {
			t.Fatalf("Check of %v = %v", list, !want)
		}
		if want {
			good++
		}
		if len(list) == 4 {
			return
		}
		for _, h := range all {
			test(append(slices.Clone(list), h))
		}
	}
	test(nil)
	if good != 1+2+4+8+16-2 { // of those with four headers, two would need the number 4
		t.Error(good)
	}
}

// P16.4: a state of many batches and many open parts.
func TestCheckLong(t *testing.T) {
	var in api.Intake
	for i := range 20000 {
		in.Heads = append(in.Heads, api.Head{Source: 1 + i/10000, Number: 1 + i%10000, Format: 1, Count: 2})
	}
	in.Seen = []api.Range{{Source: 1, From: 1, To: 20000}, {Source: 2, From: 7, To: 20006}}
	for i := range 20000 {
		p := part(20000-i, 1+i%2, false)
		p.Call = 1 + i/2
		in.Open = append(in.Open, p)
	}
	if !Check(in) {
		t.Error("the state is consistent")
	}
	in.Seen[1].To++
	if Check(in) {
		t.Error("a serial number too much")
	}
	in.Seen[1].To--
	in.Open[19999].Last = true
	if Check(in) {
		t.Error("a call is complete")
	}
}

// anything returns a state that need not be consistent.
func anything(rnd *rand.Rand) api.Intake {
	var in api.Intake
	number := func() int {
		return []int{math.MinInt, -1, 0, 1, 2, 3, api.MaxSource, api.MaxSerial, math.MaxInt}[rnd.Intn(9)]
	}
	for range rnd.Intn(4) {
		in.Seen = append(in.Seen, api.Range{Source: number(), From: number(), To: number()})
		in.Heads = append(in.Heads, api.Head{Source: number(), Number: number(), Format: number(), Count: number()})
		r := samples.Record(rnd.Intn)
		if rnd.Intn(2) == 0 {
			r = part(number(), number(), rnd.Intn(2) == 0)
		}
		in.Open = append(in.Open, r)
	}
	return in
}

// R1: states that are not consistent, and batches that are not valid.
func TestAnything(t *testing.T) {
	rnd := rand.New(rand.NewSource(160))
	taken := 0
	for range 10000 {
		in := anything(rnd)
		Check(in)
		Close(in, rnd.Intn(5))
		b := file(Next(in, 1), part(rnd.Intn(4), rnd.Intn(4), rnd.Intn(2) == 0), samples.Record(rnd.Intn))
		b.Records = b.Records[:rnd.Intn(3)]
		if _, _, _, err := Accept(in, b, always); err == api.OK {
			taken++
		}
	}
	if taken < 1000 {
		t.Error(taken)
	}
}
