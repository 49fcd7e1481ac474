package correlate

import (
	"math"
	"math/rand"
	"slices"
	"testing"

	"billing/api"
)

// testExpire compares Expire with the model, and tests what is promised for every result.
func testExpire(t *testing.T, open []api.Record, before int) ([]api.Record, []api.Record) {
	t.Helper()
	given := spare(open)
	wholes, still := Expire(given, before)
	wantWholes, wantStill := modelExpire(open, before)
	testResults(t, wholes, still, wantWholes, wantStill, Units(open))
	if !unchanged(given, open) {
		t.Fatal("the argument has changed")
	}
	return wantWholes, wantStill
}

// P15.3, P15.5 and P15.7: random open lists, at each instant at which one of their parts begins, and beside it.
func TestExpire(t *testing.T) {
	rnd := rand.New(rand.NewSource(153))
	ended, waited := 0, 0
	for range 1500 {
		_, open := Join(nil, someList(rnd, 20))
		latest := -1
		for _, p := range open {
			latest = max(latest, p.Start)
		}
		for _, before := range []int{math.MinInt, -1, 0, 1, 2, 3, 4, 5, 6, 7, 8, 9, 10, latest, latest + 1, math.MaxInt} {
			wholes, still := testExpire(t, open, before)
			ended += len(wholes)
			waited += len(still)
			if before > latest && len(still) != 0 {
				t.Fatalf("Expire(%+v, %d) leaves %+v", open, before, still)
			}
		}
	}
	if ended < 25000 || waited < 25000 {
		t.Error(ended, waited)
	}
}

// P15.3: example 3; one part that begins at before or later keeps its call open, and no other one.
func TestExpireExamples(t *testing.T) {
	one, two, four := part(1, 1, 10, false), part(2, 2, 5, false), part(4, 4, 1, false)
	open := []api.Record{one, two, four}
	wholes, still := Expire(open, 1)
	joined := api.Record{Source: 1, Serial: 1, Kind: api.KindVoice, A: "1", B: "2", Units: 15}
	rest := api.Record{Source: 1, Serial: 4, Kind: api.KindVoice, A: "1", B: "2", Units: 1}
	if !slices.Equal(wholes, []api.Record{joined, rest}) || len(still) != 0 {
		t.Error(wholes, still)
	}
	for i := range open {
		for _, before := range []int{5, 6} {
			list := slices.Clone(open)
			list[i].Start = 5
			sooner, later, source := part(5, 9, 2, true), part(6, 9, 3, false), part(7, 1, 4, false)
			sooner.Call, later.Call, source.Source, source.Start = 6, 8, 2, 5
			wholes, still := testExpire(t, slices.Concat([]api.Record{sooner}, list, []api.Record{later, source}), before)
			if before == 6 && (len(wholes) != 5 || len(still) != 0) {
				t.Error(i, wholes, still)
			}
			if before == 5 && (len(wholes) != 2 || !slices.Equal(still, append(slices.Clone(list), source))) {
				t.Error(i, wholes, still)
			}
		}
	}
	if wholes, still := Expire(nil, math.MaxInt); len(wholes)+len(still) != 0 {
		t.Error(wholes, still)
	}
}

// P15.3: where the chain ends: before a part that is missing, that does not fit, or with which the call would be too long. Parts behind the first ones do not belong to it, even if they would fit.
func TestExpireChains(t *testing.T) {
	odd := part(5, 2, 3, false)
	odd.B = "3"
	for i, x := range []struct {
		open []api.Record
		want []int // the units of the wholes
	}{
		{[]api.Record{part(1, 2, 1, true)}, []int{1}},
		{[]api.Record{part(1, 1, 1, false), part(2, 1, 2, false)}, []int{1, 2}},
		{[]api.Record{part(1, 1, 1, false), part(2, 1, 2, false), part(3, 2, 4, false), part(4, 3, 8, false), part(5, 3, 16, false)}, []int{13, 2, 16}},
		{[]api.Record{part(1, 1, 1, false), odd, part(2, 2, 4, true), part(3, 3, 8, false)}, []int{1, 3, 4, 8}},
		{[]api.Record{part(1, 1, api.MaxCall, false), part(2, 2, 1, true)}, []int{api.MaxCall, 1}},
		{[]api.Record{part(1, 1, api.MaxCall-1, false), part(2, 2, 1, false), part(3, 3, 0, false), part(4, 4, 1, true)}, []int{api.MaxCall, 1}},
		{[]api.Record{part(1, 1, api.MaxCall, false), part(2, 2, 1, false), part(3, 2, 0, false)}, []int{api.MaxCall, 1, 0}},
		{long(6110)[1:], nil},
		{long(6110), nil},
	} {
		wholes, still := testExpire(t, x.open, 1)
		for j, units := range x.want {
			if len(wholes) != len(x.want) || wholes[j].Units != units || len(still) != 0 {
				t.Errorf("case %d: %+v, %+v", i, wholes, still)
				break
			}
		}
	}
	if wholes, _ := Expire(long(6110), 1); len(wholes) != 2 || wholes[0].Units != 98*6110 || wholes[1].Units != 6110 {
		t.Error(wholes)
	}
	if wholes, _ := Expire(long(6110)[1:], 1); len(wholes) != 98 || wholes[0].Serial != 2 || wholes[97].Serial != 99 {
		t.Error(wholes)
	}
}

// P15.3: many calls are ended in the order of the open list.
func TestExpireMany(t *testing.T) {
	var list []api.Record
	for call := 20000; call >= 1; call-- {
		for _, number := range []int{4, 2, 1} {
			p := part(call*10+number, number, call, number == 4)
			p.Call, p.Start = call, call%2
			list = append(list, p)
		}
	}
	_, open := Join(nil, list)
	wholes, still := Expire(open, 1)
	if len(wholes) != 20000 || len(still) != 30000 {
		t.Fatal(len(wholes), len(still))
	}
	for i, r := range wholes {
		call := 2 * (i/2 + 1)
		if i%2 == 0 && (r.Serial != call*10+1 || r.Units != 2*call) || i%2 == 1 && (r.Serial != call*10+4 || r.Units != call) {
			t.Fatal(i, r)
		}
	}
}
