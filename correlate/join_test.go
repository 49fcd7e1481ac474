package correlate

import (
	"math"
	"math/rand"
	"slices"
	"testing"

	"billing/api"
	"billing/samples"
)

// testResults tests whole records and an open list, which have units: they must be those of the model, and share no memory.
func testResults(t *testing.T, wholes, still, wantWholes, wantStill []api.Record, units [api.Kinds]int) {
	t.Helper()
	if !slices.Equal(wholes, wantWholes) || !slices.Equal(still, wantStill) {
		t.Fatalf("%+v and %+v, not %+v and %+v", wholes, still, wantWholes, wantStill)
	}
	if !isOpenList(still) {
		t.Fatalf("%+v is no open list", still)
	}
	if added(wholes, still) != units {
		t.Fatalf("%+v and %+v do not have the units %v", wholes, still, units)
	}
	clear(wholes[:cap(wholes)])
	if !slices.Equal(still, wantStill) {
		t.Fatal("the results share memory")
	}
	clear(still[:cap(still)])
}

// testJoin compares Join with the model, and tests what is promised for every result.
func testJoin(t *testing.T, open, list []api.Record) ([]api.Record, []api.Record) {
	t.Helper()
	givenOpen, givenList := spare(open), spare(list)
	wholes, still := Join(givenOpen, givenList)
	wantWholes, wantStill := modelJoin(open, list)
	testResults(t, wholes, still, wantWholes, wantStill, added(open, list))
	if !unchanged(givenOpen, open) || !unchanged(givenList, list) {
		t.Fatal("an argument has changed")
	}
	return wantWholes, wantStill
}

// P15.2, P15.5 and P15.7: all lists of up to five of some records, of which each may come repeatedly.
func TestJoinAll(t *testing.T) {
	other := part(6, 1, 32, false)
	other.A = "3"
	whole := part(7, 0, 64, false)
	whole.Call = 0
	all := []api.Record{part(1, 1, 1, false), part(2, 1, 2, true), part(3, 2, 4, false), part(4, 2, 8, true), part(5, 3, 16, true), other, whole}
	var test func(list []api.Record)
	test = func(list []api.Record) {
		testJoin(t, nil, list)
		if len(list) == 5 {
			return
		}
		for _, p := range all {
			test(append(slices.Clone(list), p))
		}
	}
	test(nil)
}

// P15.2, P15.5 and P15.7: random lists, one after the other, each with the open list that the preceding one left.
func TestJoin(t *testing.T) {
	rnd := rand.New(rand.NewSource(152))
	joined, waited := 0, 0
	for range 1500 {
		var open []api.Record
		for range rnd.Intn(6) {
			wholes, still := testJoin(t, open, someList(rnd, 12))
			joined += len(wholes)
			waited += len(still)
			open = still
		}
	}
	if joined < 2000 || waited < 10000 {
		t.Error(joined, waited)
	}
}

// P15.6: a list that is divided anywhere.
func TestJoinDivided(t *testing.T) {
	rnd := rand.New(rand.NewSource(156))
	for range 1500 {
		_, open := Join(nil, someList(rnd, 10))
		list := someList(rnd, 16)
		wholes, still := Join(open, list)
		for i := range len(list) + 1 {
			first, rest := Join(open, list[:i])
			second, rest := Join(rest, list[i:])
			if !slices.Equal(slices.Concat(first, second), wholes) || !slices.Equal(rest, still) {
				t.Fatalf("Join(%+v, %+v), divided at %d", open, list, i)
			}
		}
	}
}

// P15.5: the order of a list in which no two parts have the same number of the same call.
func TestJoinOrder(t *testing.T) {
	rnd := rand.New(rand.NewSource(155))
	found := 0
	for range 1500 {
		var all []api.Record
		for i, p := range someList(rnd, 30) {
			p.Serial = i + 1
			if !slices.ContainsFunc(all, func(q api.Record) bool { return q.Part > 0 && !behind(p, q) && !behind(q, p) }) {
				all = append(all, p)
			}
		}
		_, open := Join(nil, all[:len(all)/3])
		list := all[len(all)/3:]
		wholes, still := Join(open, list)
		found += len(wholes)
		for range 10 {
			other := slices.Clone(list)
			rnd.Shuffle(len(other), func(i, j int) { other[i], other[j] = other[j], other[i] })
			again, rest := Join(open, other)
			slices.SortFunc(again, func(a, b api.Record) int { return a.Serial - b.Serial })
			sorted := slices.Clone(wholes)
			slices.SortFunc(sorted, func(a, b api.Record) int { return a.Serial - b.Serial })
			if !slices.Equal(again, sorted) || !slices.Equal(rest, still) {
				t.Fatalf("Join(%+v, %+v) and %+v", open, list, other)
			}
		}
	}
	if found < 1000 {
		t.Error(found)
	}
}

// P15.2: examples 1 and 2, and the order of what comes in one call.
func TestJoinExamples(t *testing.T) {
	if r, ok := Complete([]api.Record{part(1, 1, 10, false), part(2, 2, 5, true)}); !ok || r.Units != 15 || r.Serial != 1 || r.Start != 0 {
		t.Error(r, ok)
	}
	one, two, three := part(1, 1, 10, false), part(2, 2, 6, false), part(3, 3, 1, true)
	wholes, open := Join(nil, []api.Record{three, one})
	if len(wholes) != 0 || !slices.Equal(open, []api.Record{one, three}) {
		t.Error(wholes, open)
	}
	again := part(4, 2, 5, false)
	text := api.Record{Source: 2, Serial: 9, Kind: api.KindText, A: "1", B: "2", Units: 1}
	wholes, open = Join(open, []api.Record{text, two, text, again})
	joined := api.Record{Source: 1, Serial: 1, Kind: api.KindVoice, A: "1", B: "2", Units: 17}
	if !slices.Equal(wholes, []api.Record{text, joined, text}) || !slices.Equal(open, []api.Record{again}) {
		t.Error(wholes, open)
	}
}

// P15.2: the call that the last missing part joins may be joined again at once, with the parts that stand behind the first ones.
func TestJoinRepeatedly(t *testing.T) {
	odd := part(9, 1, 5, false)
	odd.A = "3"
	// Behind the odd part, which fits none of the others, stands one that does.
	_, open := Join(nil, []api.Record{odd, part(1, 1, 10, false), part(2, 2, 20, true), part(3, 2, 40, true)})
	if len(open) != 4 {
		t.Fatal(open)
	}
	end := part(8, 2, 80, true)
	end.A = "3"
	// The end of the odd part comes behind the others with the same number.
	if wholes, still := Join(open, []api.Record{end}); len(wholes) != 0 || len(still) != 5 {
		t.Error(wholes, still)
	}
	// Without the others it is joined with the odd part, and then nothing is there.
	if wholes, still := Join(open[:1], []api.Record{end}); len(wholes) != 1 || wholes[0].Units != 85 || len(still) != 0 {
		t.Error(wholes, still)
	}
	// The missing part 2 joins the first parts 1 and 3, and a part 1 that is the last one of its call is joined next.
	single := part(4, 1, 7, true)
	_, open = Join(nil, []api.Record{part(1, 1, 1, false), part(2, 3, 2, true), single})
	if len(open) != 3 {
		t.Fatal(open)
	}
	wholes, open := Join(open, []api.Record{part(3, 2, 4, false)})
	if len(wholes) != 2 || wholes[0].Units != 7 || wholes[1].Units != 7 || wholes[1].Serial != 4 || len(open) != 0 {
		t.Error(wholes, open)
	}
}

// P15.2: many calls with many parts, in any order, are joined in a moment.
func TestJoinMany(t *testing.T) {
	rnd := rand.New(rand.NewSource(1520))
	var list []api.Record
	for call := 1; call <= 1000; call++ {
		for _, p := range long(call) {
			p.Call, p.Serial = call, call*100+p.Part
			list = append(list, p)
		}
	}
	rnd.Shuffle(len(list), func(i, j int) { list[i], list[j] = list[j], list[i] })
	wholes, open := Join(nil, list)
	if len(wholes) != 1000 || len(open) != 0 || added(wholes, nil) != added(list, nil) {
		t.Error(len(wholes), len(open))
	}
	var same []api.Record
	for i := range 50000 {
		same = append(same, part(i+1, 1+rnd.Intn(2), 1, false))
	}
	if wholes, open := Join(nil, same); len(wholes) != 0 || len(open) != len(same) {
		t.Error(len(wholes), len(open))
	}
}

// R1: an open list that is none, and records that are not valid.
func TestJoinAnything(t *testing.T) {
	rnd := rand.New(rand.NewSource(1521))
	some := func() []api.Record {
		var list []api.Record
		for range rnd.Intn(8) {
			r := samples.Record(rnd.Intn)
			if rnd.Intn(2) == 0 {
				r = somePart(rnd, rnd.Intn(3))
				r.Part = []int{-1, 0, 1, 2, math.MinInt, math.MaxInt}[rnd.Intn(6)]
			}
			list = append(list, r)
		}
		return list
	}
	for range 5000 {
		a, b := some(), some()
		givenA, givenB := spare(a), spare(b)
		Join(givenA, givenB)
		for _, before := range []int{math.MinInt, 0, 5, math.MaxInt} {
			Expire(givenA, before)
		}
		if !unchanged(givenA, a) || !unchanged(givenB, b) {
			t.Fatal("an argument has changed")
		}
	}
}
