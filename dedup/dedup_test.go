package dedup

import (
	"cmp"
	"math"
	"math/rand"
	"slices"
	"testing"

	"billing/api"
)

// identity is a source and a serial number.
type identity struct{ source, serial int }

// isOne reports whether the identity is one.
func (id identity) isOne() bool {
	return id.source >= 1 && id.source <= 99 && id.serial >= 1 && id.serial <= 999999999
}

// set is a set of identities: the model of a canonical list.
type set map[identity]bool

// sorted returns the identities of a set in order.
func (s set) sorted() []identity {
	var list []identity
	for id := range s {
		list = append(list, id)
	}
	slices.SortFunc(list, func(a, b identity) int {
		return cmp.Or(cmp.Compare(a.source, b.source), cmp.Compare(a.serial, b.serial))
	})
	return list
}

// ranges returns the canonical list of a set: an identity without a predecessor begins a range, one without a successor ends it.
func (s set) ranges() []api.Range {
	var list []api.Range
	for _, id := range s.sorted() {
		if !s[identity{id.source, id.serial - 1}] {
			list = append(list, api.Range{Source: id.source, From: id.serial})
		}
		if !s[identity{id.source, id.serial + 1}] {
			list[len(list)-1].To = id.serial
		}
	}
	return list
}

// spare returns a copy of a list with spare capacity, whose elements say whether they have been changed.
func spare(list []api.Range) []api.Range {
	mark := api.Range{Source: -7, From: -7, To: -7}
	return append(slices.Clone(list), mark, mark, mark)[:len(list)]
}

// unchanged reports whether a list that spare has returned is as it was, with its spare capacity.
func unchanged(list, original []api.Range) bool {
	return slices.Equal(list, original) && slices.Equal(list[len(list):len(list)+3], spare(nil)[:3])
}

// universe are identities of which some touch, at both ends of the serial numbers, and of which some differ in the source alone.
func universe() []identity {
	var list []identity
	for _, source := range []int{1, 2} {
		for _, serial := range []int{1, 2, 3, 5, api.MaxSerial - 1, api.MaxSerial} {
			list = append(list, identity{source, serial})
		}
	}
	return append(list, identity{api.MaxSource, 4})
}

// candidates are the universe, other identities, and pairs that are none.
func candidates() []identity {
	list := universe()
	for _, source := range []int{math.MinInt, -1, 0, 1, 2, 3, 98, 99, 100, math.MaxInt} {
		for _, serial := range []int{math.MinInt, -1, 0, 4, 6, api.MaxSerial - 2, api.MaxSerial + 1, math.MaxInt} {
			list = append(list, identity{source, serial})
		}
	}
	return list
}

// eachSet calls f with the subsets of the universe.
func eachSet(f func(s set)) {
	all := universe()
	for bits := range 1 << len(all) {
		s := set{}
		for i, id := range all {
			if bits>>i&1 == 1 {
				s[id] = true
			}
		}
		f(s)
	}
}

// isCanonical reports whether a list is canonical: the definition, word by word.
func isCanonical(list []api.Range) bool {
	for i, b := range list {
		if b.Source < 1 || b.Source > 99 || b.From < 1 || b.To < b.From || b.To > 999999999 {
			return false
		}
		for _, a := range list[:i] {
			between := b.From - a.To - 1
			if a.Source > b.Source || a.Source == b.Source && (a.From > b.From || between < 1) {
				return false
			}
		}
	}
	return true
}

// P14.1: all lists of up to two ranges of some limits, and many longer ones.
func TestCheck(t *testing.T) {
	var all []api.Range
	for _, source := range []int{0, 1, 2, 99, 100} {
		for _, from := range []int{0, 1, 2, 3, 4, 999999999, 1000000000} {
			for _, to := range []int{0, 1, 2, 3, 4, 999999998, 999999999, 1000000000} {
				all = append(all, api.Range{Source: source, From: from, To: to})
			}
		}
	}
	test := func(list ...api.Range) {
		if Check(list) != isCanonical(list) {
			t.Fatalf("Check(%v) = %v", list, Check(list))
		}
	}
	test()
	for _, a := range all {
		test(a)
		for _, b := range all {
			test(a, b)
		}
	}
	rnd := rand.New(rand.NewSource(14))
	var some []api.Range
	for range 20000 {
		some = some[:0]
		for range rnd.Intn(5) {
			from := 1 + rnd.Intn(12)
			some = append(some, api.Range{Source: 1 + rnd.Intn(3), From: from, To: from + rnd.Intn(3)})
		}
		if rnd.Intn(8) > 0 {
			slices.SortFunc(some, func(a, b api.Range) int { return cmp.Or(a.Source-b.Source, a.From-b.From) })
		}
		test(some...)
	}
	for _, n := range []int{math.MinInt, math.MaxInt} {
		test(api.Range{Source: n, From: 1, To: 1})
		test(api.Range{Source: 1, From: n, To: 1})
		test(api.Range{Source: 1, From: 1, To: n})
	}
}

// P14.1: the list of a finite set is canonical, and one that is empty, too.
func TestCheckSets(t *testing.T) {
	if !Check(nil) || !Check([]api.Range{}) {
		t.Error("an empty list")
	}
	eachSet(func(s set) {
		if !Check(s.ranges()) {
			t.Fatal(s.ranges())
		}
	})
}

// P14.2 and P14.6.
func TestHasAndCount(t *testing.T) {
	eachSet(func(s set) {
		seen := s.ranges()
		for _, id := range candidates() {
			if Has(seen, id.source, id.serial) != s[id] {
				t.Fatalf("Has(%v, %v) = %v", seen, id, !s[id])
			}
		}
		if Count(seen) != len(s) {
			t.Fatalf("Count(%v) = %d, not %d", seen, Count(seen), len(s))
		}
	})
	if n := Count([]api.Range{{Source: 1, From: 1, To: api.MaxSerial}, {Source: 99, From: 1, To: api.MaxSerial}}); n != 2*999999999 {
		t.Error(n)
	}
}

// P14.3, with R5.
func TestAdd(t *testing.T) {
	eachSet(func(s set) {
		seen := s.ranges()
		given := spare(seen)
		for _, id := range candidates() {
			list, ok := Add(given, id.source, id.serial)
			if ok != (id.isOne() && !s[id]) || !ok && list != nil {
				t.Fatalf("Add(%v, %v) = %v, %v", seen, id, list, ok)
			}
			if !ok {
				continue
			}
			s[id] = true
			if !slices.Equal(list, s.ranges()) {
				t.Fatalf("Add(%v, %v) = %v", seen, id, list)
			}
			delete(s, id)
			clear(list[:cap(list)])
			if !unchanged(given, seen) {
				t.Fatalf("Add(%v, %v) has changed the list", seen, id)
			}
		}
	})
}

// missing returns the ranges of serial numbers between the seen ones of a source.
func missing(s set, source int) []api.Range {
	var list []api.Range
	before := 0
	for _, id := range s.sorted() {
		if id.source != source {
			continue
		}
		if id.serial-before > 1 {
			list = append(list, api.Range{Source: source, From: before + 1, To: id.serial - 1})
		}
		before = id.serial
	}
	return list
}

// P14.5, and P14.8: what is seen and what is missing add up to the greatest serial number.
func TestMissing(t *testing.T) {
	eachSet(func(s set) {
		seen := s.ranges()
		greatest, number := map[int]int{}, map[int]int{}
		for _, id := range s.sorted() {
			greatest[id.source] = id.serial
			number[id.source]++
		}
		for _, source := range []int{math.MinInt, 0, 1, 2, 3, 98, 99, 100, math.MaxInt} {
			gaps := Missing(seen, source)
			if !slices.Equal(gaps, missing(s, source)) {
				t.Fatalf("Missing(%v, %d) = %v", seen, source, gaps)
			}
			if number[source]+Count(gaps) != greatest[source] {
				t.Fatalf("Missing(%v, %d) = %v: %d and %d are not %d", seen, source, gaps, number[source], Count(gaps), greatest[source])
			}
		}
	})
}

// Examples 1 to 3.
func TestExamples(t *testing.T) {
	var seen []api.Range
	for _, x := range []struct {
		serial int
		want   []api.Range
	}{
		{5, []api.Range{{Source: 1, From: 5, To: 5}}},
		{7, []api.Range{{Source: 1, From: 5, To: 5}, {Source: 1, From: 7, To: 7}}},
		{6, []api.Range{{Source: 1, From: 5, To: 7}}},
	} {
		var ok bool
		if seen, ok = Add(seen, 1, x.serial); !ok || !slices.Equal(seen, x.want) {
			t.Fatal(x.serial, seen, ok)
		}
	}
	if !Has(seen, 1, 6) || Has(seen, 2, 6) {
		t.Error("Has")
	}
	for _, serial := range []int{6, 0} {
		if list, ok := Add(seen, 1, serial); ok || list != nil {
			t.Error(list, ok)
		}
	}
	seen = append(seen, api.Range{Source: 1, From: 9, To: 9})
	if gaps := Missing(seen, 1); !slices.Equal(gaps, []api.Range{{Source: 1, From: 1, To: 4}, {Source: 1, From: 8, To: 8}}) || Count(seen) != 4 {
		t.Error(gaps, Count(seen))
	}
}

// R1: lists that are not canonical yield anything, but they yield it.
func TestOtherLists(t *testing.T) {
	limits := []int{math.MinInt, 0, 1, 2, api.MaxSerial, math.MaxInt}
	rnd := rand.New(rand.NewSource(141))
	some := func() int { return limits[rnd.Intn(len(limits))] }
	for range 20000 {
		list := make([]api.Range, rnd.Intn(5))
		for i := range list {
			list[i] = api.Range{Source: some(), From: some(), To: some()}
		}
		source, serial := some(), some()
		Check(list)
		Has(list, source, serial)
		Add(list, source, serial)
		Filter(list, []api.Record{{Source: source, Serial: serial}, {Source: some(), Serial: some()}})
		Missing(list, source)
		Count(list)
	}
}
