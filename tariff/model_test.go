package tariff

import (
	"math/rand"
	"reflect"
	"slices"
	"strings"

	"billing/api"
	"billing/checker"
	"billing/samples"
)

// plain returns a small valid tariff, whose price distinguishes it from others.
func plain(name string, from, price int) api.Tariff {
	return api.Tariff{Name: name, From: from, Bands: []api.Band{{Name: "all"}}, Rates: []api.Rate{{Kind: api.KindVoice, Steps: []api.Step{{Quantum: 1, Price: price}}}}}
}

// before reports whether a tariff comes before another one in a list.
func before(x, y api.Tariff) bool {
	return strings.Compare(x.Name, y.Name) < 0 || x.Name == y.Name && x.From < y.From
}

// someList returns a list that is ascending by Name and From, with tariffs that may not be valid, for some of the names, with Froms that one makes.
func someList(rnd *rand.Rand, names []string, one func(choose func(n int) int) int) []api.Tariff {
	var list []api.Tariff
	for _, name := range names {
		for _, from := range samples.Times(rnd.Intn, one) {
			t := samples.ValidTariff(rnd.Intn)
			if rnd.Intn(5) == 0 {
				t = samples.Tariff(rnd.Intn)
			}
			t.Name, t.From = name, from
			list = append(list, t)
		}
	}
	return list
}

// moments returns the Froms of a list with their neighbours, and integers that are no instants, ascending.
func moments(list []api.Tariff) []int {
	var times []int
	for _, t := range list {
		times = append(times, t.From)
	}
	return samples.Around(times)
}

// modelAt returns the position of the version of a name at t, or -1: the definition.
func modelAt(list []api.Tariff, name string, t int) int {
	found := -1
	for i, x := range list {
		if x.Name == name && x.From <= t && (found < 0 || x.From > list[found].From) {
			found = i
		}
	}
	return found
}

// modelCheck returns the first error of a list: the sentence of P28.1.
func modelCheck(list []api.Tariff) api.Errno {
	var errors []api.Errno
	if len(list) > 4096 {
		errors = append(errors, api.ErrTooLong)
	}
	for i, t := range list {
		errors = append(errors, checker.Tariff(t))
		if i > 0 && !before(list[i-1], t) {
			errors = append(errors, api.ErrOrder)
		}
	}
	for _, err := range errors {
		if err != api.OK {
			return err
		}
	}
	return api.OK
}

// modelReplace returns a list with another tariff, and the first error: the sentences of P28.4.
func modelReplace(list []api.Tariff, t api.Tariff) ([]api.Tariff, api.Errno) {
	for _, err := range []api.Errno{modelCheck(list), checker.Tariff(t)} {
		if err != api.OK {
			return nil, err
		}
	}
	result := []api.Tariff{t}
	for _, x := range list {
		if x.Name != t.Name || x.From != t.From {
			result = append(result, x)
		}
	}
	if len(result) > 4096 {
		return nil, api.ErrTooLong
	}
	slices.SortFunc(result, func(x, y api.Tariff) int {
		if before(x, y) {
			return -1
		}
		return 1
	})
	return result, api.OK
}

// modelChanges returns the Froms of the versions of a name that a period contains: the sentence of P28.3.
func modelChanges(list []api.Tariff, name string, p api.Period) []int {
	var times []int
	valid := p.From >= 0 && p.From < p.To && p.To <= 146097*86400
	for _, t := range list {
		if valid && t.Name == name && t.From >= p.From && t.From < p.To {
			times = append(times, t.From)
		}
	}
	return times
}

// duplicate returns a list that is equal and shares no memory.
func duplicate(list []api.Tariff) []api.Tariff {
	copies := slices.Clone(list)
	for i, t := range list {
		x := &copies[i]
		x.Zones, x.Bands, x.Rates, x.Discounts = slices.Clone(t.Zones), slices.Clone(t.Bands), slices.Clone(t.Rates), slices.Clone(t.Discounts)
		for j, z := range t.Zones {
			x.Zones[j].Prefixes = slices.Clone(z.Prefixes)
		}
		for j, b := range t.Bands {
			x.Bands[j].Slots = slices.Clone(b.Slots)
		}
		for j, r := range t.Rates {
			x.Rates[j].Steps = slices.Clone(r.Steps)
		}
		for j, d := range t.Discounts {
			x.Discounts[j].When = samples.CopyExpr(d.When)
		}
	}
	return copies
}

// block is the memory of a list, with its spare capacity.
type block struct{ from, to uintptr }

// blocks returns the memory of all lists in a value.
func blocks(v reflect.Value) []block {
	var found []block
	switch v.Kind() {
	case reflect.Struct:
		for i := range v.NumField() {
			found = append(found, blocks(v.Field(i))...)
		}
	case reflect.Slice:
		if v.Cap() > 0 {
			found = append(found, block{v.Pointer(), v.Pointer() + uintptr(v.Cap())*v.Type().Elem().Size()})
		}
		for i := range v.Len() {
			found = append(found, blocks(v.Index(i))...)
		}
	}
	return found
}

// apart reports whether no two lists of a result, and no list of a result and of an argument, share memory.
func apart(result, argument any) bool {
	own, others := blocks(reflect.ValueOf(result)), blocks(reflect.ValueOf(argument))
	overlap := func(x, y block) bool { return x.from < y.to && y.from < x.to }
	slices.SortFunc(own, func(x, y block) int {
		if x.from < y.from {
			return -1
		}
		return 1
	})
	for i, x := range own {
		if i > 0 && overlap(own[i-1], x) || slices.ContainsFunc(others, func(y block) bool { return overlap(x, y) }) {
			return false
		}
	}
	return true
}
