package segment

import (
	"math"
	"math/rand"
	"reflect"
	"slices"
	"strconv"
	"testing"

	"billing/api"
	"billing/bands"
	"billing/samples"
)

// at8 is a usage of 100 seconds which begins half a minute before the band day.
func at8() api.Usage {
	return api.Usage{Kind: api.KindVoice, B: "4930", Start: monday + 8*3600 - 30, Units: 100}
}

// basic is the tariff of the chapter's examples.
func basic() api.Tariff {
	return api.Tariff{Name: "basic", Split: true, Bands: week(), Rates: []api.Rate{{Kind: api.KindVoice, Setup: 3, Steps: minutes()}}}
}

// The examples of the chapter.
func TestExamples(t *testing.T) {
	x, u := basic(), at8()
	night := api.Segment{Band: "night", Start: monday + 8*3600 - 20, Units: 20}
	day := api.Segment{Band: "day", Start: monday + 8*3600, Units: 70}
	if list := Cut(x, nil, u, 10); !slices.Equal(list, []api.Segment{night, day}) {
		t.Error("with Split:", list)
	}
	x.Split = false
	night.Units = 90
	if list := Cut(x, nil, u, 10); !slices.Equal(list, []api.Segment{night}) {
		t.Error("without Split:", list)
	}
	night.Amount = 1600
	if list, setup, err := Price(x, nil, u, 10); !slices.Equal(list, []api.Segment{night}) || setup != 3 || err != api.OK {
		t.Error("price without Split:", list, setup, err)
	}
	x.Split = true
	night.Units, night.Amount, day.Amount = 20, 1000, 600
	if list, setup, err := Price(x, nil, u, 10); !slices.Equal(list, []api.Segment{night, day}) || setup != 3 || err != api.OK {
		t.Error("price with Split:", list, setup, err)
	}
}

// P30.1: the first rate counts, not the one that says most; an empty name stands for any, but only in the rate.
func TestRate(t *testing.T) {
	prices := func(zonesAndBands ...string) api.Tariff {
		var x api.Tariff
		for i := 0; i < len(zonesAndBands); i += 2 {
			x.Rates = append(x.Rates, api.Rate{Kind: 1 + i/2%2, Zone: zonesAndBands[i], Band: zonesAndBands[i+1], Steps: seconds(i / 2)})
		}
		return x
	}
	x := prices("home", "day", "home", "day", "home", "", "", "", "", "night", "home", "day", "", "", "abroad", "night")
	for i, c := range []struct {
		kind       int
		zone, band string
		want       int
	}{
		{1, "home", "day", 0}, {2, "home", "day", 1}, {1, "home", "night", 2}, {2, "home", "night", 3}, {1, "abroad", "night", 4}, {1, "abroad", "day", 6}, {2, "abroad", "night", 3},
		{1, "", "", 6}, {1, "", "day", 6}, {1, "", "night", 4}, {1, "home", "", 2}, {2, "", "", 3}, {1, "hom", "day", 6}, {1, "homes", "nights", 6}, {1, "Home", "Day", 6},
		{3, "home", "day", -1}, {0, "home", "day", -1}, {-1, "", "", -1}, {math.MinInt, "home", "day", -1}, {math.MaxInt, "home", "day", -1},
	} {
		r, found := Rate(x, c.kind, c.zone, c.band)
		if found != (c.want >= 0) || found && r.Steps[0].Price != c.want || !found && !reflect.DeepEqual(r, api.Rate{}) {
			t.Error("case", i, r, found)
		}
	}
	only := prices("home", "day")
	for _, c := range [][2]string{{"", ""}, {"home", ""}, {"", "day"}, {"day", "home"}, {"home", "night"}, {"abroad", "day"}} {
		if r, found := Rate(only, 1, c[0], c[1]); found || !reflect.DeepEqual(r, api.Rate{}) {
			t.Error(c, r)
		}
	}
	if r, found := Rate(api.Tariff{}, 1, "", ""); found || !reflect.DeepEqual(r, api.Rate{}) {
		t.Error("without rates:", r)
	}
}

// P30.1: all lists of up to three rates of few zones, bands and kinds, against the model; no tariff is valid here.
func TestRates(t *testing.T) {
	texts := []string{"", "a", "b"}
	var all []api.Rate
	for _, zone := range texts {
		for _, band := range texts {
			for kind := range 2 {
				all = append(all, api.Rate{Kind: kind, Zone: zone, Band: band, Setup: -len(all)})
			}
		}
	}
	found := map[bool]int{}
	check := func(rates ...api.Rate) {
		x := api.Tariff{Rates: rates}
		for kind := range 2 {
			for _, zone := range texts {
				for _, band := range texts {
					r, has := Rate(x, kind, zone, band)
					at := modelRate(x, kind, zone, band)
					if has != (at >= 0) || has && !reflect.DeepEqual(r, rates[at]) || !has && !reflect.DeepEqual(r, api.Rate{}) {
						t.Fatalf("Rate(%v, %d, %q, %q) = %v, %v", rates, kind, zone, band, r, has)
					}
					found[has]++
				}
			}
		}
	}
	for _, a := range all {
		check(a)
		for _, b := range all {
			check(a, b)
			for _, c := range all {
				check(a, b, c)
			}
		}
	}
	if found[true] < 10000 || found[false] < 10000 {
		t.Error(found)
	}
}

// R5: the steps of a rate are new memory.
func TestRateMemory(t *testing.T) {
	steps := slices.Grow(minutes(), 5)
	x := api.Tariff{Rates: []api.Rate{{Kind: 2, Steps: steps}, {Kind: 1, Steps: steps}}}
	first, _ := Rate(x, 1, "", "")
	second, _ := Rate(x, 1, "", "")
	for _, r := range []api.Rate{first, second} {
		_ = append(r.Steps, api.Step{Price: 7})
		clear(r.Steps)
		if !slices.Equal(steps, minutes()) || steps[:3][2] != (api.Step{}) {
			t.Fatal("the tariff has changed:", steps)
		}
	}
	third, _ := Rate(x, 1, "", "")
	if first.Steps = append(first.Steps[:0], minutes()...); !slices.Equal(third.Steps, minutes()) || slices.Equal(second.Steps, minutes()) {
		t.Error(first, second, third)
	}
}

// P30.2: remaining usages at the limits of what is proper, and beyond them, for each kind, with and without Split.
func TestProper(t *testing.T) {
	found := map[bool]int{}
	starts := []int{math.MinInt, -1, 0, 1, api.Forever - api.MaxCall - 1, api.Forever - api.MaxCall, api.Forever - api.MaxCall + 1, api.Forever - 2, api.Forever - 1, api.Forever, math.MaxInt}
	units := []int{math.MinInt, -1, 0, 1, 2, 3, api.MaxCall - 1, api.MaxCall, api.MaxCall + 1, api.MaxUnits - 1, api.MaxUnits, api.MaxUnits + 1, math.MaxInt}
	for _, split := range []bool{false, true} {
		x := api.Tariff{Split: split, Bands: []api.Band{{Name: "all"}}}
		for kind := -1; kind <= 6; kind++ {
			for _, start := range starts {
				for _, n := range units {
					for _, free := range []int{math.MinInt, -1, 0, 1, 2, n - 1, n, n + 1, math.MaxInt} {
						u := api.Usage{Kind: kind, Start: start, Units: n}
						list := Cut(x, nil, u, free)
						found[len(list) > 0]++
						if !modelProper(u, free) {
							if len(list) > 0 {
								t.Fatalf("Cut of %+v, %d: %v", u, free, list)
							}
							continue
						}
						begin := start
						if kind == api.KindVoice {
							begin += free
						}
						if !slices.Equal(list, []api.Segment{{Band: "all", Start: begin, Units: n - free}}) {
							t.Fatalf("Cut of %+v, %d: %v", u, free, list)
						}
					}
				}
			}
		}
	}
	if found[true] < 1000 || found[false] < 1000 {
		t.Error(found)
	}
}

// P30.2: bands that are not valid, with all kinds, with and without Split.
func TestNoBands(t *testing.T) {
	day, night := week()[0], week()[1]
	long := []api.Band{}
	for i := range 64 {
		long = append(long, api.Band{Name: "b" + strconv.Itoa(i), Slots: day.Slots})
	}
	for i, list := range [][]api.Band{nil, {}, {day}, {night, day}, {day, day, night}, {day, night, night}, {{Name: "Night"}}, {{}}, append(long, night)} {
		if bands.Check(list) == api.OK {
			t.Fatal("the bands", i, "are valid")
		}
		for _, split := range []bool{false, true} {
			x := basic()
			x.Bands, x.Split = list, split
			for kind := -1; kind <= 6; kind++ {
				u := at8()
				u.Kind = kind
				if segments := Cut(x, nil, u, 0); len(segments) > 0 {
					t.Error("Cut", i, split, kind, segments)
				}
				if segments, setup, err := Price(x, nil, u, 0); len(segments) > 0 || setup != 0 || err != api.OK {
					t.Error("Price", i, split, kind, segments, setup, err)
				}
			}
		}
	}
}

// P30.2: the band is that of the remaining usage's beginning, which free units move only for voice; other kinds are never divided.
func TestBeginning(t *testing.T) {
	for _, split := range []bool{false, true} {
		x := basic()
		x.Split = split
		for free, band := range map[int]string{0: "night", 29: "night", 30: "day", 31: "day", 99: "day"} {
			u := at8()
			list := Cut(x, nil, u, free)
			if list[0].Band != band || list[0].Start != u.Start+free || len(list) != 1 != (split && band == "night") {
				t.Error("voice:", split, free, list)
			}
			for _, kind := range []int{api.KindText, api.KindData, api.KindContent} {
				u.Kind = kind
				if list := Cut(x, nil, u, free); !slices.Equal(list, []api.Segment{{Band: "night", Start: u.Start, Units: 100 - free}}) {
					t.Error("kind", kind, split, free, list)
				}
			}
		}
	}
}

// P30.2: holidays, several days, and the longest call with the most limits.
func TestDays(t *testing.T) {
	x := basic()
	x.Bands[0].Slots = append(x.Bands[0].Slots, api.Slot{Days: 128, From: 0, To: 60})
	u := api.Usage{Kind: api.KindVoice, Start: monday, Units: 2 * api.Day}
	want := []api.Segment{{Band: "day", Start: monday, Units: 3600}, {Band: "night", Start: monday + 3600, Units: api.Day + 7*3600}, {Band: "day", Start: monday + api.Day + 8*3600, Units: 10 * 3600}, {Band: "night", Start: monday + api.Day + 18*3600, Units: 6 * 3600}}
	if list := Cut(x, []int{-1, 9, 2}, u, 0); !slices.Equal(list, want) {
		t.Error(list)
	}
	x.Bands = nil
	for i := range 12 {
		b := api.Band{Name: "b" + strconv.Itoa(i)}
		for j := range 60 {
			b.Slots = append(b.Slots, api.Slot{Days: 255, From: 24*j + 2*i, To: 24*j + 2*i + 1})
		}
		x.Bands = append(x.Bands, b)
	}
	x.Bands = append(x.Bands, api.Band{Name: "last"})
	u = api.Usage{Kind: api.KindVoice, Start: monday + 30, Units: api.MaxCall}
	list := Cut(x, nil, u, 0)
	if len(list) != 7*1440+1 || list[0].Units != 30 || list[7*1440] != (api.Segment{Band: "b0", Start: monday + api.MaxCall, Units: 30}) {
		t.Fatal(len(list), list[0], list[len(list)-1])
	}
	x.Rates[0].Steps = seconds(1)
	priced, setup, err := Price(x, nil, u, 0)
	if len(priced) != len(list) || setup != 3 || err != api.OK {
		t.Fatal(len(priced), setup, err)
	}
	for i, s := range priced {
		if s.Amount != s.Units || s.Band != list[i].Band || i > 0 && i < 7*1440 && s.Units != 60 {
			t.Fatal(i, s)
		}
	}
}

// twoRates is a tariff with a rate for the night, in which at8 begins, and one for the day.
func twoRates() api.Tariff {
	x := basic()
	x.Zones = []api.Zone{{Name: "home", Prefixes: []string{"49"}}}
	night := api.Rate{Kind: api.KindVoice, Zone: "home", Band: "night", Setup: 5, Steps: seconds(1)}
	day := api.Rate{Kind: api.KindVoice, Band: "day", Setup: 50, Steps: minutes()}
	x.Rates = []api.Rate{{Kind: api.KindText, Steps: seconds(7)}, night, day}
	return x
}

// P30.3: each segment has the rate of its band, behind the units of all earlier ones; the setup is that of the first one.
func TestPrice(t *testing.T) {
	x := twoRates()
	for i, c := range []struct {
		free, setup int
		amounts     []int
	}{{0, 5, []int{30, 800}}, {10, 5, []int{20, 600}}, {29, 5, []int{1, 220}}, {30, 50, []int{1200}}, {40, 50, []int{1000}}, {99, 50, []int{1000}}, {100, 0, nil}, {101, 0, nil}, {-1, 0, nil}} {
		list, setup, err := Price(x, nil, at8(), c.free)
		var amounts []int
		for _, s := range list {
			amounts = append(amounts, s.Amount)
		}
		if setup != c.setup || err != api.OK || !slices.Equal(amounts, c.amounts) {
			t.Error("case", i, list, setup, err)
		}
	}
	u := at8()
	u.Kind, u.Units = api.KindText, 3
	if list, setup, err := Price(x, nil, u, 1); !slices.Equal(list, []api.Segment{{Band: "night", Start: u.Start, Units: 2, Amount: 14}}) || setup != 0 || err != api.OK {
		t.Error("text:", list, setup, err)
	}
}

// P30.3: the zone is that of B, and the empty name without one, also if B is no number or the zones are not valid.
func TestZone(t *testing.T) {
	home := []api.Zone{{Name: "home", Prefixes: []string{"49"}}, {Name: "mobile", Prefixes: []string{"4915"}}}
	x := basic()
	x.Rates = []api.Rate{{Kind: 1, Zone: "home", Setup: 1, Steps: seconds(1)}, {Kind: 1, Zone: "mobile", Setup: 2, Steps: seconds(1)}, {Kind: 1, Setup: 3, Steps: seconds(1)}}
	for i, c := range []struct {
		list []api.Zone
		b    string
		want int
	}{{home, "4930", 1}, {home, "49", 1}, {home, "491512", 2}, {home, "33", 3}, {home, "4", 3}, {home, "", 3}, {home, "49x", 3}, {home, "4912345678901234", 3}, {nil, "49", 3}, {append(home, home[0]), "49", 3}} {
		x.Zones = c.list
		u := at8()
		u.B = c.b
		if _, setup, err := Price(x, nil, u, 0); setup != c.want || err != api.OK {
			t.Error("case", i, setup, err)
		}
	}
}

// P30.3: each error alone, in the first and in the second segment.
func TestPriceErrors(t *testing.T) {
	for i, c := range []struct {
		err    api.Errno
		change func(x *api.Tariff)
	}{
		{api.ErrRate, func(x *api.Tariff) { x.Rates = nil }},
		{api.ErrRate, func(x *api.Tariff) { x.Rates = x.Rates[:2] }},
		{api.ErrRate, func(x *api.Tariff) { x.Rates = slices.Delete(x.Rates, 1, 2) }},
		{api.ErrRate, func(x *api.Tariff) { x.Zones = nil }},
		{api.ErrRate, func(x *api.Tariff) { x.Rates[1].Kind = api.KindText }},
		{api.ErrRate, func(x *api.Tariff) { x.Rates[2].Zone = "abroad" }},
		{api.ErrInvalid, func(x *api.Tariff) { x.Rates[1].Steps = nil }},
		{api.ErrInvalid, func(x *api.Tariff) { x.Rates[2].Steps = nil }},
		{api.ErrInvalid, func(x *api.Tariff) { x.Rates[2].Steps = seconds(-1) }},
		{api.ErrRange, func(x *api.Tariff) { x.Rates[1].Steps = seconds(api.MaxAmount) }},
		{api.ErrRange, func(x *api.Tariff) { x.Rates[2].Steps = seconds(api.MaxAmount) }},
		{api.ErrRange, func(x *api.Tariff) { x.Rates[2].Steps = seconds(api.MaxAmount/100 + 1) }},
		{api.ErrRange, func(x *api.Tariff) { x.Rates[1].Setup = -1 }},
		{api.ErrRange, func(x *api.Tariff) { x.Rates[1].Setup = api.MaxAmount + 1 }},
		{api.ErrRange, func(x *api.Tariff) { x.Rates[1].Setup = math.MinInt }},
		{api.ErrRange, func(x *api.Tariff) { x.Rates[1].Setup = math.MaxInt }},
		{api.ErrRange, func(x *api.Tariff) { x.Rates[1].Setup = api.MaxAmount - 829 }},
		{api.OK, func(x *api.Tariff) { x.Rates[1].Setup = api.MaxAmount - 830 }},
		{api.OK, func(x *api.Tariff) { x.Rates[2].Setup = math.MinInt }},
		{api.OK, func(x *api.Tariff) { x.Rates[0].Steps, x.Rates[0].Setup = nil, -1 }},
		// The ladders pay for both segments, but the sum is too much.
		{api.ErrRange, func(x *api.Tariff) {
			x.Rates[1].Steps = []api.Step{{Quantum: 1000, Price: api.MaxAmount / 2}}
			x.Rates[2].Steps = []api.Step{{Upto: 30, Quantum: 30, Price: 0}, {Quantum: 1000, Price: api.MaxAmount/2 - 4}}
		}},
		{api.OK, func(x *api.Tariff) {
			x.Rates[1].Steps = []api.Step{{Quantum: 1000, Price: api.MaxAmount / 2}}
			x.Rates[2].Steps = []api.Step{{Upto: 30, Quantum: 30, Price: 0}, {Quantum: 1000, Price: api.MaxAmount/2 - 5}}
		}},
	} {
		x := twoRates()
		c.change(&x)
		list, setup, err := Price(x, nil, at8(), 0)
		if err != c.err || (err == api.OK) != (len(list) == 2) || err != api.OK && setup != 0 {
			t.Error("case", i, list, setup, err)
		}
	}
}

// P30.3: the first of several errors.
func TestPriceErrorOrder(t *testing.T) {
	for i, c := range []struct {
		err    api.Errno
		change func(x *api.Tariff)
	}{
		// The first segment counts more than the second one.
		{api.ErrRate, func(x *api.Tariff) { x.Rates[1].Kind, x.Rates[2].Steps = 2, nil }},
		{api.ErrRate, func(x *api.Tariff) { x.Rates[1].Kind, x.Rates[2].Steps = 2, seconds(api.MaxAmount) }},
		{api.ErrInvalid, func(x *api.Tariff) { x.Rates[1].Steps, x.Rates[2].Kind = nil, 2 }},
		{api.ErrInvalid, func(x *api.Tariff) { x.Rates[1].Steps, x.Rates[2].Steps = nil, seconds(api.MaxAmount) }},
		{api.ErrRange, func(x *api.Tariff) { x.Rates[1].Steps, x.Rates[2].Kind = seconds(api.MaxAmount), 2 }},
		{api.ErrRange, func(x *api.Tariff) { x.Rates[1].Steps, x.Rates[2].Steps = seconds(api.MaxAmount), nil }},
		// Setup and sum count least.
		{api.ErrRate, func(x *api.Tariff) { x.Rates[1].Setup, x.Rates[2].Kind = -1, 2 }},
		{api.ErrInvalid, func(x *api.Tariff) { x.Rates[1].Setup, x.Rates[2].Steps = -1, nil }},
		{api.ErrInvalid, func(x *api.Tariff) { x.Rates[1].Setup, x.Rates[1].Steps = -1, nil }},
		{api.ErrRate, func(x *api.Tariff) { x.Rates[1].Setup, x.Rates[2].Kind = api.MaxAmount, 2 }},
		{api.ErrInvalid, func(x *api.Tariff) { x.Rates[1].Setup, x.Rates[2].Steps = api.MaxAmount, nil }},
	} {
		x := twoRates()
		c.change(&x)
		if list, setup, err := Price(x, nil, at8(), 0); err != c.err || len(list) > 0 || setup != 0 {
			t.Error("case", i, list, setup, err)
		}
	}
}

// P30.3: a rate for each of as many bands as possible, all of them as expensive as possible, and many segments.
func TestGreatSum(t *testing.T) {
	x := api.Tariff{Split: true}
	for i := range 63 {
		name := "b" + strconv.Itoa(i)
		x.Bands = append(x.Bands, api.Band{Name: name, Slots: []api.Slot{{Days: 255, From: 20 * i, To: 20*i + 20}}})
		x.Rates = append(x.Rates, api.Rate{Kind: 1, Band: name, Setup: 0, Steps: []api.Step{{Upto: 1200*i + 1, Quantum: api.MaxUnits}, {Quantum: api.MaxUnits, Price: api.MaxAmount}}})
	}
	x.Bands = append(x.Bands, api.Band{Name: "last"})
	u := api.Usage{Kind: api.KindVoice, Start: 0, Units: 63 * 1200}
	if list, setup, err := Price(x, nil, u, 0); err != api.ErrRange || len(list) > 0 || setup != 0 {
		t.Error(len(list), setup, err)
	}
	u.Units = 1200
	if list, setup, err := Price(x, nil, u, 0); err != api.OK || len(list) != 1 || list[0].Amount != api.MaxAmount {
		t.Error(len(list), setup, err)
	}
	x.Rates[0].Setup = 1
	if list, setup, err := Price(x, nil, u, 0); err != api.ErrRange || len(list) > 0 || setup != 0 {
		t.Error(len(list), setup, err)
	}
}

// P30.2, P30.3, with R5: random tariffs and usages against the models.
func TestModels(t *testing.T) {
	rnd := rand.New(rand.NewSource(302))
	found, long := map[api.Errno]int{}, map[int]int{}
	for range 3000 {
		x, days := someTariff(rnd), someDays(rnd)
		given, holidays := duplicate(x), samples.Spare(days, 5)
		u, free := someUsage(rnd, x)
		if u.Units > 20000 { // the model takes its time
			u.Units, free = 20000, min(free, rnd.Intn(5000))
		}
		want := modelCut(x, days, u, free)
		if list := Cut(x, holidays, u, free); !slices.Equal(list, want) {
			t.Fatalf("Cut(%+v, %v, %+v, %d) = %v, not %v", x, days, u, free, list, want)
		}
		want, wantSetup, wantErr := modelPrice(x, days, u, free)
		list, setup, err := Price(x, holidays, u, free)
		if !slices.Equal(list, want) || setup != wantSetup || err != wantErr {
			t.Fatalf("Price(%+v, %v, %+v, %d) = %v, %d, %v, not %v, %d, %v", x, days, u, free, list, setup, err, want, wantSetup, wantErr)
		}
		if !reflect.DeepEqual(x, given) || !samples.Unchanged(holidays, days, 5) {
			t.Fatal("an argument has changed")
		}
		found[err]++
		long[min(len(list), 3)]++
	}
	if found[api.OK] < 500 || found[api.ErrRate] < 200 || found[api.ErrInvalid] < 5 || found[api.ErrRange] < 5 || long[1] < 200 || long[2] < 50 || long[3] < 50 {
		t.Error(found, long)
	}
}

// P30.4: the units add up; with Split, segments follow one another, and neighbours have different bands.
func TestUnits(t *testing.T) {
	rnd := rand.New(rand.NewSource(304))
	neighbours := 0
	for range 20000 {
		x, days := someTariff(rnd), someDays(rnd)
		u, free := someUsage(rnd, x)
		list := Cut(x, days, u, free)
		sum := 0
		for i, s := range list {
			if s.Amount != 0 || s.Units <= 0 {
				t.Fatal(s)
			}
			sum += s.Units
			if i > 0 {
				before := list[i-1]
				if !x.Split || u.Kind != api.KindVoice || s.Start != before.Start+before.Units || s.Band == before.Band {
					t.Fatal(list)
				}
				neighbours++
			}
		}
		if len(list) > 0 && sum != u.Units-free {
			t.Fatal(u, free, list)
		}
		if proper := modelProper(u, free) && bands.Check(x.Bands) == api.OK; proper != (len(list) > 0) {
			t.Fatal(u, free, list)
		}
	}
	if neighbours < 5000 {
		t.Error(neighbours)
	}
}

// P30.5: a call with free units is one that begins so much later, is so much shorter, and has none.
func TestFree(t *testing.T) {
	rnd := rand.New(rand.NewSource(305))
	long := map[int]int{}
	for range 5000 {
		x, days := someTariff(rnd), someDays(rnd)
		u, free := someUsage(rnd, x)
		if u.Kind != api.KindVoice || free < 1 || !modelProper(u, free) {
			continue
		}
		list, setup, err := Price(x, days, u, free)
		cut := Cut(x, days, u, free)
		u.Start, u.Units = u.Start+free, u.Units-free
		other, otherSetup, otherErr := Price(x, days, u, 0)
		if !slices.Equal(list, other) || setup != otherSetup || err != otherErr || !slices.Equal(cut, Cut(x, days, u, 0)) {
			t.Fatalf("%+v, %d: %v, %d, %v and %v, %d, %v", u, free, list, setup, err, other, otherSetup, otherErr)
		}
		long[min(len(list), 3)]++
	}
	if long[0] < 200 || long[1] < 200 || long[2] < 50 || long[3] < 50 {
		t.Error(long)
	}
}

// R5: the segments are new memory for each call.
func TestSegmentMemory(t *testing.T) {
	x, u := basic(), at8()
	cut := Cut(x, nil, u, 0)
	priced, _, _ := Price(x, nil, u, 0)
	want := slices.Clone(priced)
	clear(cut)
	other, _, _ := Price(x, nil, u, 0)
	clear(other)
	if !slices.Equal(priced, want) || !reflect.DeepEqual(x, basic()) {
		t.Error(priced)
	}
}

// R1: tariffs that are not valid, and any integers.
func TestAnything(t *testing.T) {
	rnd := rand.New(rand.NewSource(301))
	for range 3000 {
		x := samples.Tariff(rnd.Intn)
		u := api.Usage{Kind: rnd.Intn(6), B: samples.Name(rnd.Intn), Start: samples.Integer(rnd.Intn), Units: samples.Integer(rnd.Intn)}
		free := samples.Integer(rnd.Intn)
		Rate(x, u.Kind, u.B, "")
		Cut(x, []int{free}, u, free)
		Price(x, []int{free}, u, free)
	}
}
