package correlate

import (
	"math"
	"math/rand"
	"slices"
	"testing"

	"billing/api"
	"billing/samples"
)

// testComplete compares Complete with the definition.
func testComplete(t *testing.T, parts ...api.Record) bool {
	t.Helper()
	given := spare(parts)
	r, ok := Complete(given)
	want, wantOk := modelComplete(parts)
	if r != want || ok != wantOk {
		t.Fatalf("Complete(%+v) = %+v, %v, not %+v, %v", parts, r, ok, want, wantOk)
	}
	if !unchanged(given, parts) {
		t.Fatal("the argument has changed")
	}
	return ok
}

// P15.1: all lists of up to four of some parts, with each number, with and without Last.
func TestCompleteNumbers(t *testing.T) {
	var all []api.Record
	for number := 0; number <= 4; number++ {
		all = append(all, part(10+number, number, 1<<number, false), part(20+number, number, 100, true))
	}
	complete := 0
	var test func(list []api.Record)
	test = func(list []api.Record) {
		if testComplete(t, list...) {
			complete++
		}
		if len(list) == 4 {
			return
		}
		for _, p := range all {
			test(append(slices.Clone(list), p))
		}
	}
	test(nil)
	if complete != 4 {
		t.Error(complete, "lists are complete") // 1; 1 2; 1 2 3; 1 2 3 4
	}
}

// P15.1: which fields may differ among the parts, and whose value the whole has.
func TestCompleteFields(t *testing.T) {
	for i, x := range []struct {
		change func(p *api.Record)
		want   bool
	}{
		{func(p *api.Record) {}, true},
		{func(p *api.Record) { p.Serial = 9 }, true},
		{func(p *api.Record) { p.Serial = 0 }, false}, // not valid
		{func(p *api.Record) { p.Start = 50 }, true},
		{func(p *api.Record) { p.Start = 300 }, true},
		{func(p *api.Record) { p.Start = -1 }, false},
		{func(p *api.Record) { p.Units = 0 }, true},
		{func(p *api.Record) { p.Units = -1 }, false},
		{func(p *api.Record) { p.Source = 2 }, false},
		{func(p *api.Record) { p.Call = 8 }, false},
		{func(p *api.Record) { p.Kind = api.KindText }, false},
		{func(p *api.Record) { p.A = "11" }, false},
		{func(p *api.Record) { p.B = "1" }, false},
		{func(p *api.Record) { p.Trunk = 4 }, false},
		{func(p *api.Record) { p.Trunk = 0 }, false},
		{func(p *api.Record) { p.Inbound = true }, false},
		{func(p *api.Record) { p.Last = !p.Last }, false},
		{func(p *api.Record) { p.Part = 0 }, false},
		{func(p *api.Record) { p.Call, p.Part, p.Last = 0, 0, false }, false},
	} {
		for changed := range 3 {
			list := []api.Record{part(1, 1, 10, false), part(2, 2, 20, false), part(3, 3, 5, true)}
			for j := range list {
				list[j].Trunk, list[j].Start = 3, 100+10*j
			}
			x.change(&list[changed])
			if got := testComplete(t, list...); got != x.want {
				t.Errorf("case %d: a change of part %d: %v", i, changed+1, got)
			}
		}
	}
	// If all parts have the value, it is that of the whole.
	list := []api.Record{part(5, 1, 10, false), part(2, 2, 20, true)}
	for j := range list {
		list[j].Source, list[j].Call, list[j].Kind, list[j].A, list[j].B, list[j].Start, list[j].Trunk, list[j].Inbound = 99, api.MaxSerial, api.KindData, "49", "", 7-j, 999, true
	}
	r, ok := Complete(list)
	if !ok || r != (api.Record{Source: 99, Serial: 5, Kind: api.KindData, A: "49", Start: 7, Units: 30, Trunk: 999, Inbound: true}) {
		t.Error(r, ok)
	}
}

// long returns a complete list with the greatest number of parts.
func long(units int) []api.Record {
	var list []api.Record
	for i := 1; i <= api.MaxParts; i++ {
		list = append(list, part(i, i, units, i == api.MaxParts))
	}
	return list
}

// P15.1: the whole must be valid, too, with the sum of the units; there are at most MaxParts parts.
func TestCompleteLimits(t *testing.T) {
	test := func(want bool, parts ...api.Record) {
		t.Helper()
		if testComplete(t, parts...) != want {
			t.Errorf("%+v: %v", parts, !want)
		}
	}
	test(true, part(1, 1, api.MaxCall, true))
	test(true, part(1, 1, api.MaxCall-1, false), part(2, 2, 1, true))
	test(true, part(1, 1, 0, false), part(2, 2, api.MaxCall, true))
	test(false, part(1, 1, api.MaxCall, false), part(2, 2, 1, true))
	test(false, part(1, 1, api.MaxCall, false), part(2, 2, api.MaxCall, true))
	test(true, long(api.MaxCall/api.MaxParts)...)
	test(false, long(api.MaxCall/api.MaxParts+1)...)
	more := append(long(1), part(100, 100, 1, true))
	more[98].Last = false
	test(false, more...)
	data := long(api.MaxUnits / api.MaxParts)
	for i := range data {
		data[i].Kind = api.KindData
	}
	test(true, data...)
	data[98].Units += api.MaxUnits % api.MaxParts
	test(true, data...)
	data[0].Units++
	test(false, data...)
	for i := range data {
		data[i].Units = api.MaxUnits
	}
	test(false, data...)
	// The whole begins with the first part, and must end before Forever as a call does.
	a, b := part(1, 1, 6, false), part(2, 2, 4, true)
	a.Start = api.Forever - 10
	test(true, a, b)
	b.Units = 5
	test(false, a, b)
	a.Kind, b.Kind = api.KindText, api.KindText
	test(true, a, b)
}

// P15.1, R1: lists that need not consist of parts.
func TestCompleteAnything(t *testing.T) {
	rnd := rand.New(rand.NewSource(151))
	complete := 0
	for range 20000 {
		var list []api.Record
		r := samples.Record(rnd.Intn)
		for i := range rnd.Intn(4) {
			if rnd.Intn(10) == 0 {
				r = samples.Record(rnd.Intn)
			}
			r.Part, r.Last, r.Call = i+1, false, max(r.Call, 1)
			list = append(list, r)
		}
		if len(list) > 0 {
			list[len(list)-1].Last = rnd.Intn(10) > 0
		}
		if testComplete(t, list...) {
			complete++
		}
	}
	if complete < 2000 {
		t.Error(complete)
	}
	testComplete(t)
	testComplete(t, part(1, math.MaxInt, 1, true))
	testComplete(t, part(1, 1, math.MaxInt, false), part(1, 2, math.MaxInt, true))
}

// P15.4: which records have units, and where they are counted.
func TestUnits(t *testing.T) {
	limits := []int{math.MinInt, -1, 0, 1, api.MaxUnits - 1, api.MaxUnits, api.MaxUnits + 1, math.MaxInt}
	var list []api.Record
	var want [api.Kinds]int
	for _, kind := range []int{math.MinInt, -1, 0, 1, 2, 3, 4, 5, 6, math.MaxInt} {
		for _, units := range limits {
			list = append(list, api.Record{Kind: kind, Units: units})
			if kind > 0 && kind < 5 && units >= 0 && units <= 1<<40 {
				want[kind] += units
			}
			given := spare(list)
			if got := Units(given); got != want {
				t.Fatalf("Units(%+v) = %v, not %v", list, got, want)
			}
			if !unchanged(given, list) {
				t.Fatal("the argument has changed")
			}
		}
	}
	if Units(nil) != [api.Kinds]int{} {
		t.Error(Units(nil))
	}
	if got := Units([]api.Record{part(1, 1, 5, false), part(1, 1, 5, false), {Kind: api.KindContent, Units: 3}}); got != [api.Kinds]int{0, 10, 0, 0, 3} {
		t.Error(got)
	}
}
