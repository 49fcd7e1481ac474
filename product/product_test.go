package product

import (
	"math"
	"math/rand"
	"reflect"
	"slices"
	"testing"

	"billing/api"
	"billing/samples"
)

// duplicate returns a list that is equal and shares no memory.
func duplicate(list []api.Product) []api.Product {
	copies := slices.Clone(list)
	for i, p := range list {
		copies[i].Bundles = slices.Clone(p.Bundles)
		for j, b := range p.Bundles {
			copies[i].Bundles[j].Zones = slices.Clone(b.Zones)
		}
	}
	return copies
}

// overwrite changes all lists of a product, with their spare capacity.
func overwrite(p api.Product) {
	for _, b := range p.Bundles {
		for i := range b.Zones[:cap(b.Zones)] {
			b.Zones[:cap(b.Zones)][i] = "overwritten"
		}
	}
	clear(p.Bundles[:cap(p.Bundles)])
}

// someList returns a list that is ascending by Name and From, valid or not, with Froms that one makes.
func someList(rnd *rand.Rand, one func(choose func(n int) int) int) []api.Product {
	var list []api.Product
	for _, name := range samples.VersionNames() {
		for _, from := range samples.Times(rnd.Intn, one) {
			p := base()
			p.Name, p.From, p.Fee = name, from, rnd.Intn(3)-1
			p.Bundles = p.Bundles[:rnd.Intn(3)]
			if rnd.Intn(5) == 0 {
				p.Bundles, p.Category = append(p.Bundles, api.Bundle{Zones: []string{"", "b", "a"}}), "X"
			}
			list = append(list, p)
		}
	}
	return list
}

// version returns the position of the version of a product at t, or -1: the definition.
func version(list []api.Product, name string, t int) int {
	found := -1
	for i, p := range list {
		if p.Name == name && p.From <= t && (found < 0 || p.From > list[found].From) {
			found = i
		}
	}
	return found
}

// moments returns the Froms of a list with their neighbours, and integers that are no instants, ascending.
func moments(list []api.Product) []int {
	var times []int
	for _, p := range list {
		times = append(times, p.From)
	}
	return samples.Around(times)
}

// equal reports whether two products are equal. (No list and an empty one are.)
func equal(p, q api.Product) bool {
	bundles := func(a, b api.Bundle) bool {
		zones := slices.Equal(a.Zones, b.Zones)
		a.Zones, b.Zones = nil, nil
		return zones && reflect.DeepEqual(a, b)
	}
	same := slices.EqualFunc(p.Bundles, q.Bundles, bundles)
	p.Bundles, q.Bundles = nil, nil
	return same && reflect.DeepEqual(p, q)
}

// P19.2 and P19.3, with R3 and R5.
func TestVersions(t *testing.T) {
	rnd := rand.New(rand.NewSource(190))
	found, several := map[bool]int{}, 0
	for range 1000 {
		list := someList(rnd, samples.Integer)
		given := duplicate(list)
		for _, at := range moments(list) {
			var names []string
			for _, name := range append(samples.VersionNames(), "b", "flats") {
				p, has := At(given, name, at)
				i := version(list, name, at)
				if has != (i >= 0) || has && !equal(p, list[i]) || !has && !reflect.DeepEqual(p, api.Product{}) {
					t.Fatalf("At(%+v, %q, %d) = %+v, %v", list, name, at, p, has)
				}
				found[has]++
				if has {
					names = append(names, name)
				}
				if i > 0 && list[i-1].Name == name {
					several++
				}
				overwrite(p)
			}
			got := Names(given, at)
			if !slices.Equal(got, names) {
				t.Fatalf("Names(%+v, %d) = %q, not %q", list, at, got, names)
			}
			clear(got[:cap(got)])
			if !reflect.DeepEqual(given, list) {
				t.Fatal("the argument has changed")
			}
		}
	}
	if found[true] < 10000 || found[false] < 10000 || several < 5000 {
		t.Error(found, several)
	}
}

// R5: no two lists of a result share memory, and no two results.
func TestMemory(t *testing.T) {
	list := []api.Product{base()}
	p, _ := At(list, "flat", 10)
	q, _ := At(list, "flat", 10)
	for i, b := range p.Bundles {
		if !slices.Equal(b.Zones, base().Bundles[i].Zones) {
			t.Errorf("the bundle %d has changed: %+v", i, b)
		}
		for j := range b.Zones[:cap(b.Zones)] {
			b.Zones[:cap(b.Zones)][j] = "overwritten"
		}
	}
	overwrite(p)
	if !reflect.DeepEqual(q, base()) || !reflect.DeepEqual(list, []api.Product{base()}) {
		t.Errorf("%+v, %+v", q, list)
	}
}

// modelFees returns, for each version, the first and the last instant of p at which it is the version of the name, with its fee.
func modelFees(list []api.Product, name string, p api.Period) []api.Priced {
	if !(0 <= p.From && p.From < p.To && p.To <= 146097*86400) {
		return nil
	}
	// A version can begin or end within p only at one of the moments.
	times := append(moments(list), p.From, p.To-1)
	times = slices.DeleteFunc(times, func(at int) bool { return at < p.From || at >= p.To })
	var fees []api.Priced
	for i, v := range list {
		var instants []int
		for _, at := range times {
			if version(list, name, at) == i {
				instants = append(instants, at)
			}
		}
		if len(instants) > 0 {
			fees = append(fees, api.Priced{Period: api.Period{From: slices.Min(instants), To: slices.Max(instants) + 1}, Amount: v.Fee})
		}
	}
	return fees
}

// checkFees checks P19.5: no gaps up to the end, and the fee of the version at each instant.
func checkFees(t *testing.T, list []api.Product, name string, p api.Period, fees []api.Priced) {
	t.Helper()
	for i, f := range fees {
		to := p.To
		if i+1 < len(fees) {
			to = fees[i+1].Period.From
		}
		if f.Period.To != to || f.Period.From >= to || f.Period.From < p.From {
			t.Fatalf("Fees(%+v, %q, %v) = %v", list, name, p, fees)
		}
		for _, at := range []int{f.Period.From, (f.Period.From + to) / 2, to - 1} {
			if q, has := At(list, name, at); !has || q.Fee != f.Amount {
				t.Fatalf("Fees(%+v, %q, %v) = %v, at %d", list, name, p, fees, at)
			}
		}
	}
	if len(fees) > 0 && fees[0].Period.From > p.From {
		if _, has := At(list, name, fees[0].Period.From-1); has {
			t.Fatalf("Fees(%+v, %q, %v) = %v begin late", list, name, p, fees)
		}
	}
	if _, has := At(list, name, p.To-1); has && len(fees) == 0 && 0 <= p.From && p.From < p.To && p.To <= api.Forever {
		t.Fatalf("Fees(%+v, %q, %v): none", list, name, p)
	}
}

// P19.4 and P19.5, with R5.
func TestFees(t *testing.T) {
	rnd := rand.New(rand.NewSource(194))
	long := map[int]int{} // how many results have so many elements
	for range 20000 {
		list := someList(rnd, samples.Instant)
		given := duplicate(list)
		name := append(samples.VersionNames(), "b")[rnd.Intn(10)]
		p := api.Period{From: samples.Instant(rnd.Intn), To: samples.Instant(rnd.Intn) + rnd.Intn(2)}
		if rnd.Intn(10) == 0 {
			p = api.Period{From: samples.Integer(rnd.Intn), To: samples.Integer(rnd.Intn)}
		}
		fees, want := Fees(given, name, p), modelFees(list, name, p)
		if !slices.Equal(fees, want) {
			t.Fatalf("Fees(%+v, %q, %v) = %v, not %v", list, name, p, fees, want)
		}
		checkFees(t, list, name, p, fees)
		clear(fees[:cap(fees)])
		if !reflect.DeepEqual(given, list) || !slices.Equal(Fees(given, name, p), want) {
			t.Fatal("the argument has changed")
		}
		long[len(want)]++
	}
	if long[0] < 1000 || long[1] < 1000 || long[2] < 500 || long[3] < 100 {
		t.Error(long)
	}
}

// P19.4: the examples of the chapter, and other periods at the limits of versions.
func TestFeesExamples(t *testing.T) {
	flat := func(from, fee int) api.Product {
		return api.Product{Name: "flat", From: from, Fee: fee, Category: "fees"}
	}
	priced := func(from, to, fee int) api.Priced {
		return api.Priced{Period: api.Period{From: from, To: to}, Amount: fee}
	}
	other := api.Product{Name: "flat2", From: 700, Fee: 7, Category: "fees"}
	both, late, same := []api.Product{flat(0, 100), flat(1000, 120), other}, []api.Product{flat(1000, 120), other}, []api.Product{flat(0, 100), flat(1000, 100)}
	for i, x := range []struct {
		list     []api.Product
		from, to int
		want     []api.Priced
	}{
		{both, 500, 1500, []api.Priced{priced(500, 1000, 100), priced(1000, 1500, 120)}},
		{late, 500, 1500, []api.Priced{priced(1000, 1500, 120)}},
		{same, 500, 1500, []api.Priced{priced(500, 1000, 100), priced(1000, 1500, 100)}},
		{both, 500, 1000, []api.Priced{priced(500, 1000, 100)}},
		{both, 500, 1001, []api.Priced{priced(500, 1000, 100), priced(1000, 1001, 120)}},
		{both, 999, 1000, []api.Priced{priced(999, 1000, 100)}},
		{both, 1000, 1500, []api.Priced{priced(1000, 1500, 120)}},
		{both, 0, api.Forever, []api.Priced{priced(0, 1000, 100), priced(1000, api.Forever, 120)}},
		{late, 500, 1000, nil}, {late, 0, 1, nil}, {nil, 0, 10, nil},
		{both, 5, 5, nil}, {both, 6, 5, nil}, {both, -1, 5, nil}, {both, 0, api.Forever + 1, nil}, {both, math.MinInt, math.MaxInt, nil},
	} {
		if got := Fees(x.list, "flat", api.Period{From: x.from, To: x.to}); !slices.Equal(got, x.want) {
			t.Error("case", i, got)
		}
	}
	if got := Names(late, 999); !slices.Equal(got, []string{"flat2"}) {
		t.Error("Names at 999", got)
	}
	if got := Names(late[:1], 999); len(got) != 0 {
		t.Error("Names at 999", got)
	}
	if got := Names(both, 1000); !slices.Equal(got, []string{"flat", "flat2"}) {
		t.Error("Names of several versions", got)
	}
}

// R1: lists that are in no order.
func TestAnything(t *testing.T) {
	rnd := rand.New(rand.NewSource(191))
	for range 5000 {
		list := someList(rnd, samples.Integer)
		rnd.Shuffle(len(list), func(i, j int) { list[i], list[j] = list[j], list[i] })
		Check(list)
		for _, name := range samples.VersionNames() {
			n := samples.Integer(rnd.Intn)
			At(list, name, n)
			Names(list, n)
			Fees(list, name, api.Period{From: n, To: samples.Integer(rnd.Intn)})
			Fees(list, name, api.Period{From: 0, To: api.Forever})
		}
	}
}
