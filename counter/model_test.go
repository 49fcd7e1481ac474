package counter

import (
	"math"
	"math/rand"
	"slices"

	"billing/api"
)

// key is the key of a counter, and counts is what it has counted.
type key struct{ sub, kind, from int }
type counts struct{ units, spent int }

// model are counters by their keys; it says nothing of their order.
type model map[key]counts

// keyOf returns the key of a counter.
func keyOf(c api.Counter) key { return key{c.Sub, c.Kind, c.From} }

// compareKeys orders keys by their parts, one after the other.
func compareKeys(a, b key) int {
	x, y := []int{a.sub, a.kind, a.from}, []int{b.sub, b.kind, b.from}
	return slices.Compare(x, y)
}

// list returns the canonical list of a model, without the counters that have counted nothing.
func (m model) list() []api.Counter {
	var list []api.Counter
	for k, n := range m {
		if n != (counts{}) {
			list = append(list, api.Counter{Sub: k.sub, Kind: k.kind, From: k.from, Units: n.units, Spent: n.spent})
		}
	}
	slices.SortFunc(list, func(a, b api.Counter) int { return compareKeys(keyOf(a), keyOf(b)) })
	return list
}

// add adds to a counter, and returns the error of Add for a canonical list: the sentence of P32.3.
func (m model) add(c api.Counter) api.Errno {
	if c.Sub < 1 || c.Sub > 9999 || c.Kind < 1 || c.Kind > 4 || c.From < 0 || c.From >= 146097*86400 {
		return api.ErrInvalid
	}
	old := m[keyOf(c)]
	for _, n := range [][2]int{{c.Units, old.units}, {c.Spent, old.spent}} {
		if n[0] < 0 || n[0] > 1<<50 || n[0]+n[1] > 1<<50 {
			return api.ErrRange
		}
	}
	m[keyOf(c)] = counts{c.Units + old.units, c.Spent + old.spent}
	return api.OK
}

// modelCheck reports whether a list is canonical: the definition, for each two counters.
func modelCheck(list []api.Counter) bool {
	for i, c := range list {
		if (model{}).add(c) != api.OK || c.Units == 0 && c.Spent == 0 {
			return false
		}
		for _, before := range list[:i] {
			if compareKeys(keyOf(before), keyOf(c)) >= 0 {
				return false
			}
		}
	}
	return true
}

// modelGet returns a counter: the sentence of P32.2.
func modelGet(list []api.Counter, k key) api.Counter {
	for _, c := range list {
		if keyOf(c) == k {
			return c
		}
	}
	return api.Counter{Sub: k.sub, Kind: k.kind, From: k.from}
}

// someCounter returns a counter with one of few permitted keys, and with few counts or up to all that are permitted.
func someCounter(rnd *rand.Rand) api.Counter {
	count := func() int { return []int{0, 1, rnd.Intn(100), rnd.Intn(api.MaxAmount + 1), api.MaxAmount}[rnd.Intn(5)] }
	return api.Counter{
		Sub: []int{1, 2, api.MaxAccount}[rnd.Intn(3)], Kind: 1 + rnd.Intn(4), From: []int{0, 1, api.Forever - 1}[rnd.Intn(3)],
		Units: count(), Spent: count(),
	}
}

// anyCounter returns a counter whose fields are at their limits or beyond them, or anything.
func anyCounter(rnd *rand.Rand) api.Counter {
	some := func(least, most int) int {
		return []int{least, least, least + 1, most, most, least - 1, most + 1, math.MinInt, math.MaxInt}[rnd.Intn(9)]
	}
	c := api.Counter{Sub: some(1, api.MaxAccount), Kind: some(1, 4), From: some(0, api.Forever-1), Units: some(0, api.MaxAmount), Spent: some(0, api.MaxAmount)}
	if rnd.Intn(2) == 0 { // most of the others have a key that is not permitted
		k := someCounter(rnd)
		c.Sub, c.Kind, c.From = k.Sub, k.Kind, k.From
	}
	return c
}

// someList returns a list of counters, canonical or nearly so, or with any counters in any order.
func someList(rnd *rand.Rand) []api.Counter {
	var list []api.Counter
	for range rnd.Intn(7) {
		if c := someCounter(rnd); c.Units > 0 || c.Spent > 0 {
			list = append(list, c)
		}
	}
	if rnd.Intn(4) > 0 {
		slices.SortFunc(list, func(a, b api.Counter) int { return compareKeys(keyOf(a), keyOf(b)) })
	}
	if rnd.Intn(4) > 0 {
		list = slices.CompactFunc(list, func(a, b api.Counter) bool { return keyOf(a) == keyOf(b) })
	}
	if rnd.Intn(4) == 0 {
		list = slices.Insert(list, rnd.Intn(len(list)+1), anyCounter(rnd))
	}
	return list
}
