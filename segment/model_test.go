package segment

import (
	"math/big"
	"math/rand"
	"slices"

	"billing/api"
	"billing/bands"
	"billing/ladder"
	"billing/samples"
	"billing/zones"
)

// monday is the first instant of 2000-01-03.
const monday = 2 * api.Day

// minutes and seconds are price ladders.
func minutes() []api.Step {
	return []api.Step{{Upto: 60, Quantum: 60, Price: 1000}, {Quantum: 1, Price: 20}}
}
func seconds(price int) []api.Step { return []api.Step{{Quantum: 1, Price: price}} }

// week are bands of the chapter's examples.
func week() []api.Band {
	return []api.Band{{Name: "day", Slots: []api.Slot{{Days: 31, From: 480, To: 1080}}}, {Name: "night"}}
}

// modelRate returns the position of the rate, or -1: the sentence of P30.1.
func modelRate(t api.Tariff, kind int, zone, band string) int {
	for i, r := range t.Rates {
		rightZone := r.Zone == "" || r.Zone == zone
		rightBand := r.Band == "" || r.Band == band
		if r.Kind == kind && rightZone && rightBand {
			return i
		}
	}
	return -1
}

// modelProper reports whether the remaining usage is proper: the definition, with exact integers.
func modelProper(u api.Usage, free int) bool {
	units, start, most := big.NewInt(int64(u.Units)), big.NewInt(int64(u.Start)), big.NewInt(1<<40)
	left := new(big.Int).Sub(units, big.NewInt(int64(free)))
	end, forever := new(big.Int).Add(start, units), big.NewInt(146097*86400)
	switch {
	case free < 0, units.Cmp(most) > 0, left.Sign() <= 0, start.Sign() < 0, start.Cmp(forever) >= 0:
		return false
	case u.Kind == 1:
		return units.Cmp(big.NewInt(7*86400)) <= 0 && end.Cmp(forever) <= 0
	}
	return true
}

// modelCut returns the segments, found second by second: the definition of a band's pieces.
func modelCut(t api.Tariff, holidays []int, u api.Usage, free int) []api.Segment {
	if !modelProper(u, free) || bands.Check(t.Bands) != api.OK {
		return nil
	}
	switch {
	case u.Kind != 1:
		return []api.Segment{{Band: bands.At(t.Bands, holidays, u.Start), Start: u.Start, Units: u.Units - free}}
	case !t.Split:
		return []api.Segment{{Band: bands.At(t.Bands, holidays, u.Start+free), Start: u.Start + free, Units: u.Units - free}}
	}
	var list []api.Segment
	for second := free; second < u.Units; second++ {
		band := bands.At(t.Bands, holidays, u.Start+second)
		if len(list) == 0 || list[len(list)-1].Band != band {
			list = append(list, api.Segment{Band: band, Start: u.Start + second})
		}
		list[len(list)-1].Units++
	}
	return list
}

// modelPrice returns the segments with their amounts, the setup and the error: the sentences of P30.3.
func modelPrice(t api.Tariff, holidays []int, u api.Usage, free int) ([]api.Segment, int, api.Errno) {
	zone, _ := zones.Find(t.Zones, u.B)
	list, setup, units, sum := modelCut(t, holidays, u, free), 0, 0, new(big.Int)
	for i, s := range list {
		at := modelRate(t, u.Kind, zone, s.Band)
		if at < 0 {
			return nil, 0, api.ErrRate
		}
		price, err := ladder.Between(t.Rates[at].Steps, units, s.Units)
		if err != api.OK {
			return nil, 0, err
		}
		list[i].Amount = price
		sum.Add(sum, big.NewInt(int64(price)))
		units += s.Units
		if i == 0 {
			setup = t.Rates[at].Setup
		}
	}
	if setup < 0 || setup > 1<<50 || sum.Add(sum, big.NewInt(int64(setup))).Cmp(big.NewInt(1<<50)) > 0 {
		return nil, 0, api.ErrRange
	}
	return list, setup, api.OK
}

// duplicate returns a tariff without discounts that is equal and shares no memory.
func duplicate(t api.Tariff) api.Tariff {
	t.Zones, t.Bands, t.Rates = slices.Clone(t.Zones), slices.Clone(t.Bands), slices.Clone(t.Rates)
	for i := range t.Zones {
		t.Zones[i].Prefixes = slices.Clone(t.Zones[i].Prefixes)
	}
	for i := range t.Bands {
		t.Bands[i].Slots = slices.Clone(t.Bands[i].Slots)
	}
	for i := range t.Rates {
		t.Rates[i].Steps = slices.Clone(t.Rates[i].Steps)
	}
	return t
}

// someTariff returns a tariff without discounts, most of them valid, with several rates that serve the same usages.
func someTariff(rnd *rand.Rand) api.Tariff {
	t := samples.ValidTariff(rnd.Intn)
	t.Discounts, t.Split = nil, rnd.Intn(4) > 0
	for range rnd.Intn(8) {
		r := api.Rate{Kind: max(1, rnd.Intn(8)-3), Setup: rnd.Intn(100), Steps: samples.ValidSteps(rnd.Intn)}
		if len(t.Zones) > 0 && rnd.Intn(3) == 0 {
			r.Zone = t.Zones[rnd.Intn(len(t.Zones))].Name
		}
		if rnd.Intn(3) == 0 {
			r.Band = t.Bands[rnd.Intn(len(t.Bands))].Name
		}
		switch rnd.Intn(40) {
		case 0:
			r.Steps = nil
		case 1:
			r.Steps = seconds(api.MaxAmount)
		case 2:
			r.Setup = []int{-1, api.MaxAmount, api.MaxAmount + 1}[rnd.Intn(3)]
		case 3:
			r.Kind = []int{0, -1, 5}[rnd.Intn(3)]
		}
		t.Rates = append(t.Rates, r)
	}
	switch rnd.Intn(30) {
	case 0:
		t.Bands = t.Bands[1:]
	case 1:
		t.Zones = append(t.Zones, api.Zone{Name: "empty"})
	}
	return t
}

// someUsage returns a usage with free units, most of them with a remaining usage that is proper, to one of the zones of a tariff or to none.
func someUsage(rnd *rand.Rand, t api.Tariff) (api.Usage, int) {
	u := api.Usage{Kind: 1 + rnd.Intn(4), B: []string{"", "49", "33123", "9"}[rnd.Intn(4)], Start: rnd.Intn(20 * api.Day), Units: 1 + rnd.Intn(1+rnd.Intn(3*api.Day))}
	if rnd.Intn(2) == 0 {
		u.Kind = api.KindVoice
	}
	if len(t.Zones) > 0 && rnd.Intn(2) == 0 {
		z := t.Zones[rnd.Intn(len(t.Zones))]
		if len(z.Prefixes) > 0 {
			u.B = z.Prefixes[rnd.Intn(len(z.Prefixes))] + "55"
		}
	}
	free := rnd.Intn(u.Units)
	switch rnd.Intn(20) {
	case 0:
		u.Start = api.Forever - 1 - rnd.Intn(u.Units+1)
	case 1:
		free = u.Units - rnd.Intn(2)
	case 2:
		u.Kind = rnd.Intn(7) - 1
	case 3, 4, 5:
		free = 0
	}
	return u, free
}

// someDays returns a list of days that are holidays, in no order, and of integers that are no days.
func someDays(rnd *rand.Rand) []int {
	var days []int
	for range rnd.Intn(8) {
		days = append(days, rnd.Intn(26)-3)
	}
	return days
}
