package dedup

import (
	"math/rand"
	"slices"
	"testing"

	"billing/api"
	"billing/samples"
)

// someRecord returns a record whose other fields are anything, also invalid.
func someRecord(rnd *rand.Rand, id identity) api.Record {
	r := samples.Record(rnd.Intn)
	r.Source, r.Serial = id.source, id.serial
	if rnd.Intn(4) == 0 {
		r = api.Record{Source: id.source, Serial: id.serial, Kind: -1, Start: -1, Units: -1}
	}
	return r
}

// modelFilter adds the identities of records to a set, and returns the records that are accepted, and rejects.
func modelFilter(s set, list []api.Record) (accepted []api.Record, rejects []api.Reject) {
	for i, r := range list {
		id := identity{r.Source, r.Serial}
		switch {
		case !id.isOne():
			rejects = append(rejects, api.Reject{Source: r.Source, Serial: r.Serial, Index: i, Err: api.ErrRange})
		case s[id]:
			rejects = append(rejects, api.Reject{Source: r.Source, Serial: r.Serial, Index: i, Err: api.ErrDuplicate})
		default:
			s[id] = true
			accepted = append(accepted, r)
		}
	}
	return accepted, rejects
}

// P14.4 and the first half of P14.8, with R5: many lists of records, each with the list of ranges that the preceding one returned.
func TestFilter(t *testing.T) {
	rnd := rand.New(rand.NewSource(144))
	all := candidates()
	for range 400 {
		s := set{}
		var seen []api.Range
		for range rnd.Intn(12) {
			list := make([]api.Record, rnd.Intn(16), 20)
			for i := range list {
				list[i] = someRecord(rnd, all[rnd.Intn(len(all))])
				if rnd.Intn(2) == 0 {
					list[i] = someRecord(rnd, identity{1 + rnd.Intn(3), 1 + rnd.Intn(40)})
				}
			}
			given, before := spare(seen), slices.Clone(list[:cap(list)])
			now, accepted, rejects := Filter(given, list)
			wantAccepted, wantRejects := modelFilter(s, list)
			if !slices.Equal(now, s.ranges()) || !slices.Equal(accepted, wantAccepted) || !slices.Equal(rejects, wantRejects) {
				t.Fatalf("Filter(%v, %v) = %v, %v, %v", seen, list, now, accepted, rejects)
			}
			if Count(now)-Count(seen) != len(accepted) || !Check(now) {
				t.Fatal(seen, now, len(accepted))
			}
			result := slices.Clone(now)
			clear(now[:cap(now)])
			clear(accepted[:cap(accepted)])
			if !unchanged(given, seen) || !slices.Equal(list[:cap(list)], before) {
				t.Fatal("an argument has changed")
			}
			seen = result
		}
	}
}

// P14.4: a list without records, and one of which no record is accepted, leave the ranges as they are, in new memory.
func TestFilterNothing(t *testing.T) {
	seen := []api.Range{{Source: 1, From: 5, To: 7}, {Source: 2, From: 1, To: 1}}
	for _, list := range [][]api.Record{nil, {}, {{Source: 1, Serial: 6}, {Source: 100, Serial: 6}}} {
		given := slices.Clone(seen)
		now, accepted, rejects := Filter(given, list)
		if !slices.Equal(now, seen) || len(accepted) != 0 || len(rejects) != len(list) {
			t.Error(now, accepted, rejects)
		}
		clear(now[:cap(now)])
		if !slices.Equal(given, seen) {
			t.Error("the result shares memory with the argument")
		}
	}
	if now, accepted, rejects := Filter(nil, nil); len(now)+len(accepted)+len(rejects) != 0 {
		t.Error(now, accepted, rejects)
	}
}

// P14.7: of the records with one identity the first one is accepted, however the records are divided among calls.
func TestOnce(t *testing.T) {
	rnd := rand.New(rand.NewSource(147))
	for range 300 {
		var list []api.Record
		first := map[identity]int{}
		for i := range rnd.Intn(60) {
			id := identity{1 + rnd.Intn(2), 1 + rnd.Intn(20)}
			list = append(list, api.Record{Source: id.source, Serial: id.serial, Units: i})
			if _, found := first[id]; !found {
				first[id] = i
			}
		}
		var seen []api.Range
		var accepted []api.Record
		for rest := list; len(rest) > 0; {
			n := 1 + rnd.Intn(len(rest))
			now, some, _ := Filter(seen, rest[:n])
			seen, rest = now, rest[n:]
			accepted = append(accepted, some...)
		}
		if len(accepted) != len(first) {
			t.Fatal(len(accepted), len(first))
		}
		for _, r := range accepted {
			if first[identity{r.Source, r.Serial}] != r.Units {
				t.Fatalf("%+v is not the first one", r)
			}
		}
	}
}

// A list of the greatest number of records for which each range stands alone, taken from the middle outwards.
func TestFilterLong(t *testing.T) {
	var list []api.Record
	for i := range api.MaxRecords {
		serial := 10000 + 2*i
		if i%2 == 1 {
			serial = 9998 - 2*i
		}
		list = append(list, api.Record{Source: 5, Serial: serial})
	}
	seen, accepted, rejects := Filter(nil, list)
	if len(seen) != len(list) || !Check(seen) || !slices.Equal(accepted, list) || len(rejects) != 0 {
		t.Error(len(seen), len(accepted), len(rejects))
	}
}
