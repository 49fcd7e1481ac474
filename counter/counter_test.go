package counter

import (
	"math"
	"math/rand"
	"slices"
	"testing"

	"billing/api"
	"billing/samples"
)

// mark fills the spare capacity of arguments.
var mark = api.Counter{Sub: -7, Kind: -7, From: -7, Units: -7, Spent: -7}

// three is a canonical list, whose middle counter has neighbours with the same subscription.
func three() []api.Counter {
	return []api.Counter{{Sub: 1, Kind: 3, From: 5, Units: 10}, {Sub: 2, Kind: 1, From: 5, Units: 60, Spent: 20}, {Sub: 2, Kind: 2, From: 5, Spent: 30}}
}

// The examples of the chapter.
func TestExamples(t *testing.T) {
	c := api.Counter{Sub: 1, Kind: 1, From: 0, Units: 60, Spent: 20}
	once, err := Add(nil, c)
	if !slices.Equal(once, []api.Counter{c}) || err != api.OK {
		t.Error("once:", once, err)
	}
	twice, err := Add(once, c)
	if !slices.Equal(twice, []api.Counter{{Sub: 1, Kind: 1, From: 0, Units: 120, Spent: 40}}) || err != api.OK {
		t.Error("twice:", twice, err)
	}
	if list := Drop(twice, 1); len(list) > 0 {
		t.Error("Drop before 1:", list)
	}
	if list := Drop(twice, 0); !slices.Equal(list, twice) {
		t.Error("Drop before 0:", list)
	}
}

// P32.1: each field of a counter alone, at the limits and beyond them, as the only, first, middle and last one.
func TestCheckFields(t *testing.T) {
	for i, x := range []struct {
		field       func(c *api.Counter) *int
		least, most int
	}{
		{func(c *api.Counter) *int { return &c.Sub }, 1, 9999},
		{func(c *api.Counter) *int { return &c.Kind }, 1, 4},
		{func(c *api.Counter) *int { return &c.From }, 0, 146097*86400 - 1},
		{func(c *api.Counter) *int { return &c.Units }, 0, 1 << 50},
		{func(c *api.Counter) *int { return &c.Spent }, 0, 1 << 50},
	} {
		for _, n := range []int{math.MinInt, -1, 0, 1, 2, 3, 4, 5, x.most - 1, x.most, x.most + 1, math.MaxInt} {
			c := api.Counter{Sub: 3, Kind: 2, From: 9, Units: 7, Spent: 8}
			*x.field(&c) = n
			want := n >= x.least && n <= x.most
			if Check([]api.Counter{c}) != want {
				t.Error("field", i, n)
			}
			for at := range 4 {
				list := slices.Insert(three(), at, c)
				if Check(list) != modelCheck(list) || !want && Check(list) {
					t.Error("field", i, n, list)
				}
			}
		}
	}
	for _, x := range []struct {
		units, spent int
		want         bool
	}{{0, 0, false}, {1, 0, true}, {0, 1, true}, {1, 1, true}, {-1, 1, false}, {1, -1, false}, {api.MaxAmount, api.MaxAmount, true}} {
		if Check([]api.Counter{{Sub: 1, Kind: 1, Units: x.units, Spent: x.spent}}) != x.want {
			t.Error(x)
		}
	}
}

// P32.1: the order of each two and each three of some counters; the counts are no part of it.
func TestCheckOrder(t *testing.T) {
	var all []api.Counter
	for _, sub := range []int{1, 2, 9999} {
		for _, kind := range []int{1, 2, 4} {
			for _, from := range []int{0, 5, api.Forever - 1} {
				all = append(all, api.Counter{Sub: sub, Kind: kind, From: from, Units: 1 + len(all)*7%5})
			}
		}
	}
	if !Check(nil) || !Check([]api.Counter{}) || !Check(all) || !Check(three()) {
		t.Error("lists in order")
	}
	for i, a := range all {
		for j, b := range all {
			if Check([]api.Counter{a, b}) != (i < j) {
				t.Error(a, b)
			}
			for k, c := range all {
				if Check([]api.Counter{a, b, c}) != (i < j && j < k) {
					t.Error(a, b, c)
				}
			}
		}
	}
}

// P32.2: the first counter with the key, in any list, and an empty one with any other key.
func TestGet(t *testing.T) {
	list := []api.Counter{{Sub: 2, Kind: 1, From: 5, Units: 1}, {Sub: 1, Kind: 1, From: 5, Units: 2, Spent: 9}, {Sub: 2, Kind: 2, From: 5, Units: 3}, {Sub: 2, Kind: 1, From: 6, Units: 4}, {Sub: 2, Kind: 1, From: 5, Units: 5}, {Sub: -1, Kind: 7, From: -2, Units: -3, Spent: -4}, {Sub: 0}}
	for i, x := range []struct {
		sub, kind, from int
		want            api.Counter
	}{
		{2, 1, 5, list[0]}, {1, 1, 5, list[1]}, {2, 2, 5, list[2]}, {2, 1, 6, list[3]}, {-1, 7, -2, list[5]}, {0, 0, 0, list[6]},
		{2, 1, 4, api.Counter{Sub: 2, Kind: 1, From: 4}}, {2, 3, 5, api.Counter{Sub: 2, Kind: 3, From: 5}}, {3, 1, 5, api.Counter{Sub: 3, Kind: 1, From: 5}},
		{1, 2, 5, api.Counter{Sub: 1, Kind: 2, From: 5}}, {1, 1, 6, api.Counter{Sub: 1, Kind: 1, From: 6}},
		{math.MinInt, math.MaxInt, -1, api.Counter{Sub: math.MinInt, Kind: math.MaxInt, From: -1}},
	} {
		if c := Get(list, x.sub, x.kind, x.from); c != x.want {
			t.Error("case", i, c)
		}
		if c := Get(nil, x.sub, x.kind, x.from); c != (api.Counter{Sub: x.sub, Kind: x.kind, From: x.from}) {
			t.Error("an empty list:", i, c)
		}
	}
}

// P32.3: a counter is changed, or added at its place.
func TestAdd(t *testing.T) {
	a, b, c := three()[0], three()[1], three()[2]
	for i, x := range []struct {
		add  api.Counter
		want []api.Counter
	}{
		{api.Counter{Sub: 2, Kind: 1, From: 5, Units: 5, Spent: 6}, []api.Counter{a, {Sub: 2, Kind: 1, From: 5, Units: 65, Spent: 26}, c}},
		{api.Counter{Sub: 2, Kind: 1, From: 5, Units: 5}, []api.Counter{a, {Sub: 2, Kind: 1, From: 5, Units: 65, Spent: 20}, c}},
		{api.Counter{Sub: 2, Kind: 1, From: 5, Spent: 6}, []api.Counter{a, {Sub: 2, Kind: 1, From: 5, Units: 60, Spent: 26}, c}},
		{api.Counter{Sub: 1, Kind: 3, From: 5, Spent: 1}, []api.Counter{{Sub: 1, Kind: 3, From: 5, Units: 10, Spent: 1}, b, c}},
		{api.Counter{Sub: 2, Kind: 2, From: 5, Units: 1}, []api.Counter{a, b, {Sub: 2, Kind: 2, From: 5, Units: 1, Spent: 30}}},
		{api.Counter{Sub: 2, Kind: 1, From: 4, Units: 1}, []api.Counter{a, {Sub: 2, Kind: 1, From: 4, Units: 1}, b, c}},
		{api.Counter{Sub: 2, Kind: 1, From: 6, Spent: 1}, []api.Counter{a, b, {Sub: 2, Kind: 1, From: 6, Spent: 1}, c}},
		{api.Counter{Sub: 1, Kind: 2, From: 9, Units: 1}, []api.Counter{{Sub: 1, Kind: 2, From: 9, Units: 1}, a, b, c}},
		{api.Counter{Sub: 2, Kind: 4, From: 0, Units: 1}, []api.Counter{a, b, c, {Sub: 2, Kind: 4, From: 0, Units: 1}}},
		{api.Counter{Sub: 9999, Kind: 4, From: api.Forever - 1, Units: api.MaxAmount, Spent: api.MaxAmount}, []api.Counter{a, b, c, {Sub: 9999, Kind: 4, From: api.Forever - 1, Units: api.MaxAmount, Spent: api.MaxAmount}}},
		{api.Counter{Sub: 2, Kind: 1, From: 5, Units: api.MaxAmount - 60, Spent: api.MaxAmount - 20}, []api.Counter{a, {Sub: 2, Kind: 1, From: 5, Units: api.MaxAmount, Spent: api.MaxAmount}, c}},
		// Nothing at all changes nothing, whether there is such a counter or not.
		{api.Counter{Sub: 2, Kind: 1, From: 5}, three()},
		{api.Counter{Sub: 2, Kind: 1, From: 6}, three()},
		{api.Counter{Sub: 1, Kind: 1, From: 0}, three()},
		{api.Counter{Sub: 3, Kind: 4, From: 0}, three()},
	} {
		if list, err := Add(three(), x.add); !slices.Equal(list, x.want) || err != api.OK {
			t.Error("case", i, list, err)
		}
	}
	if list, err := Add(nil, api.Counter{Sub: 1, Kind: 1}); len(list) > 0 || err != api.OK {
		t.Error("nothing to an empty list:", list, err)
	}
}

// P32.3: each error alone, and two of them.
func TestAddErrors(t *testing.T) {
	for i, x := range []struct {
		add  api.Counter
		want api.Errno
	}{
		{api.Counter{Sub: 0, Kind: 1, Units: 1}, api.ErrInvalid}, {api.Counter{Sub: -1, Kind: 1, Units: 1}, api.ErrInvalid}, {api.Counter{Sub: 10000, Kind: 1, Units: 1}, api.ErrInvalid},
		{api.Counter{Sub: 1, Kind: 0, Units: 1}, api.ErrInvalid}, {api.Counter{Sub: 1, Kind: 5, Units: 1}, api.ErrInvalid}, {api.Counter{Sub: 1, Kind: -1, Units: 1}, api.ErrInvalid},
		{api.Counter{Sub: 1, Kind: 1, From: -1, Units: 1}, api.ErrInvalid}, {api.Counter{Sub: 1, Kind: 1, From: api.Forever, Units: 1}, api.ErrInvalid},
		// Also if there is nothing to be added.
		{api.Counter{Sub: 0, Kind: 1}, api.ErrInvalid}, {api.Counter{Sub: 1, Kind: 5}, api.ErrInvalid}, {api.Counter{Sub: 1, Kind: 1, From: -1}, api.ErrInvalid},
		{api.Counter{Sub: 1, Kind: 1, Units: -1}, api.ErrRange}, {api.Counter{Sub: 1, Kind: 1, Spent: -1}, api.ErrRange}, {api.Counter{Sub: 1, Kind: 1, Units: 1, Spent: -1}, api.ErrRange},
		{api.Counter{Sub: 1, Kind: 1, Units: api.MaxAmount + 1}, api.ErrRange}, {api.Counter{Sub: 1, Kind: 1, Spent: api.MaxAmount + 1}, api.ErrRange},
		{api.Counter{Sub: 1, Kind: 1, Units: math.MinInt}, api.ErrRange}, {api.Counter{Sub: 1, Kind: 1, Spent: math.MaxInt}, api.ErrRange},
		{api.Counter{Sub: 2, Kind: 1, From: 5, Units: api.MaxAmount - 59}, api.ErrRange}, {api.Counter{Sub: 2, Kind: 1, From: 5, Spent: api.MaxAmount - 19}, api.ErrRange},
		// A negative number is not permitted, although the sum would be.
		{api.Counter{Sub: 2, Kind: 1, From: 5, Units: -1}, api.ErrRange}, {api.Counter{Sub: 2, Kind: 1, From: 5, Spent: -20}, api.ErrRange},
		{api.Counter{Sub: 2, Kind: 1, From: 5, Units: math.MaxInt}, api.ErrRange}, {api.Counter{Sub: 2, Kind: 1, From: 5, Spent: math.MinInt}, api.ErrRange},
		{api.Counter{Sub: 0, Kind: 1, Units: -1}, api.ErrInvalid}, {api.Counter{Sub: 1, Kind: 5, Spent: api.MaxAmount + 1}, api.ErrInvalid}, {api.Counter{Sub: 1, Kind: 1, From: -1, Units: math.MaxInt}, api.ErrInvalid},
	} {
		if list, err := Add(three(), x.add); len(list) > 0 || err != x.want {
			t.Error("case", i, list, err)
		}
	}
	a, b, c := three()[0], three()[1], three()[2]
	for i, list := range [][]api.Counter{{a, a}, {b, a}, {a, c, b}, {a, b, b}, {{Sub: 1, Kind: 1}, b}, {b, {Sub: 3, Kind: 1}}, {{Sub: 0, Kind: 1, Units: 1}}, {{Sub: 1, Kind: 1, Units: -1, Spent: 1}}, {{Sub: 1, Kind: 1, Units: api.MaxAmount + 1}}} {
		for _, x := range []api.Counter{b, {Sub: 2, Kind: 1, From: 5}, {Sub: 2, Kind: 1, From: 5, Units: -1}, {}} {
			if list, err := Add(list, x); len(list) > 0 || err != api.ErrInvalid {
				t.Error("list", i, list, err)
			}
		}
	}
}

// P32.4: the counters that remain, in the order of any list.
func TestDrop(t *testing.T) {
	list := []api.Counter{{Sub: 2, Kind: 1, From: 5, Units: 1}, {From: -1}, {Sub: 1, From: 6}, {Sub: 2, Kind: 1, From: 5, Units: 1}, {From: math.MaxInt, Spent: -1}, {From: math.MinInt}, {From: 4}}
	for before, want := range map[int][]api.Counter{
		math.MinInt: list, math.MinInt + 1: {list[0], list[1], list[2], list[3], list[4], list[6]}, 0: {list[0], list[2], list[3], list[4], list[6]},
		4: {list[0], list[2], list[3], list[4], list[6]}, 5: {list[0], list[2], list[3], list[4]}, 6: {list[2], list[4]}, 7: {list[4]}, math.MaxInt: {list[4]},
	} {
		if got := Drop(list, before); !slices.Equal(got, want) {
			t.Error(before, got)
		}
	}
	if len(Drop(nil, 0))+len(Drop([]api.Counter{}, 0)) > 0 {
		t.Error("an empty list")
	}
}

// P32.1, P32.2, P32.3, P32.4, with R1 and R5: any lists against the model.
func TestModel(t *testing.T) {
	rnd := rand.New(rand.NewSource(321))
	found := map[api.Errno]int{}
	for range 100000 {
		list := someList(rnd)
		given := samples.Spare(list, mark)
		c, canonical := anyCounter(rnd), modelCheck(list)
		if rnd.Intn(2) == 0 {
			c = someCounter(rnd)
		}
		m, want, wantErr := model{}, []api.Counter(nil), api.ErrInvalid
		for _, x := range list {
			m[keyOf(x)] = counts{x.Units, x.Spent}
		}
		if canonical {
			if wantErr = m.add(c); wantErr == api.OK {
				want = m.list()
			}
		}
		got, err := Add(given, c)
		if Check(given) != canonical || !slices.Equal(got, want) || err != wantErr {
			t.Fatalf("Add(%v, %v) = %v, %v, not %v, %v", list, c, got, err, want, wantErr)
		}
		clear(got[:cap(got)])
		if x := Get(given, c.Sub, c.Kind, c.From); x != modelGet(list, keyOf(c)) {
			t.Fatalf("Get(%v, %v) = %v", list, keyOf(c), x)
		}
		kept := slices.DeleteFunc(slices.Clone(list), func(x api.Counter) bool { return x.From < c.From })
		dropped := Drop(given, c.From)
		if !slices.Equal(dropped, kept) {
			t.Fatalf("Drop(%v, %d) = %v", list, c.From, dropped)
		}
		clear(dropped[:cap(dropped)])
		if !samples.Unchanged(given, list, mark) {
			t.Fatal("the list has changed")
		}
		found[err]++
	}
	if found[api.OK] < 10000 || found[api.ErrInvalid] < 10000 || found[api.ErrRange] < 10000 {
		t.Error(found)
	}
}

// P32.5: long histories yield canonical lists, in which one counter alone changes with each step.
func TestHistories(t *testing.T) {
	rnd := rand.New(rand.NewSource(322))
	for range 300 {
		var list []api.Counter
		m := model{}
		for range rnd.Intn(200) {
			c := api.Counter{Sub: 1 + rnd.Intn(6), Kind: 1 + rnd.Intn(4), From: rnd.Intn(5), Units: max(0, rnd.Intn(100)-40), Spent: max(0, rnd.Intn(100)-40)}
			next, err := Add(list, c)
			if err != api.OK || m.add(c) != api.OK || !Check(next) {
				t.Fatal(list, c, next, err)
			}
			others := func(list []api.Counter) []api.Counter {
				return slices.DeleteFunc(slices.Clone(list), func(x api.Counter) bool { return keyOf(x) == keyOf(c) })
			}
			if !slices.Equal(others(list), others(next)) || !slices.Equal(next, m.list()) {
				t.Fatal(list, c, next)
			}
			list = next
			if rnd.Intn(30) == 0 {
				before := rnd.Intn(3)
				list = Drop(list, before)
				for k := range m {
					if k.from < before {
						delete(m, k)
					}
				}
				if !Check(list) || !slices.Equal(list, m.list()) {
					t.Fatal("Drop before", before, list)
				}
			}
		}
	}
}

// added returns the list of all counters that are added, one after the other.
func added(t *testing.T, counters []api.Counter) []api.Counter {
	var list []api.Counter
	for _, c := range counters {
		var err api.Errno
		if list, err = Add(list, c); err != api.OK {
			t.Fatal(counters, c, err)
		}
	}
	return list
}

// P32.5: the order in which counters are added does not matter.
func TestAnyOrder(t *testing.T) {
	rnd := rand.New(rand.NewSource(323))
	for range 2000 {
		var counters []api.Counter
		for range rnd.Intn(12) {
			counters = append(counters, api.Counter{Sub: 1 + rnd.Intn(2), Kind: 1 + rnd.Intn(2), From: rnd.Intn(3), Units: rnd.Intn(api.MaxAmount / 12), Spent: max(0, rnd.Intn(9)-4)})
		}
		want := added(t, counters)
		for range 5 {
			rnd.Shuffle(len(counters), func(i, j int) { counters[i], counters[j] = counters[j], counters[i] })
			if list := added(t, counters); !slices.Equal(list, want) {
				t.Fatal(counters, list, want)
			}
		}
	}
}

// P32.1, P32.3: there is no limit to the number of counters.
func TestManyCounters(t *testing.T) {
	var list []api.Counter
	for sub := 1; sub <= api.MaxAccount; sub++ {
		for kind := 1; kind <= 4; kind++ {
			list = append(list, api.Counter{Sub: sub, Kind: kind, From: sub % 3, Units: sub, Spent: kind})
		}
	}
	if !Check(list) {
		t.Fatal("the list is not canonical")
	}
	for _, sub := range []int{1, 2, 5000, api.MaxAccount} {
		c := Get(list, sub, 3, sub%3)
		if c != (api.Counter{Sub: sub, Kind: 3, From: sub % 3, Units: sub, Spent: 3}) {
			t.Error(sub, c)
		}
		at := slices.Index(list, c)
		more, err := Add(list, c)
		if len(more) != len(list) || more[at] != (api.Counter{Sub: sub, Kind: 3, From: sub % 3, Units: 2 * sub, Spent: 6}) || err != api.OK {
			t.Error(sub, len(more), err)
		}
		c.From++
		if more, err = Add(list, c); len(more) != len(list)+1 || more[at+1] != c || err != api.OK {
			t.Error(sub, len(more), err)
		}
	}
}
