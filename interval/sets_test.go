package interval

import (
	"math/rand"
	"slices"
	"testing"

	"billing/api"
)

// space is the number of instants in which the random periods lie.
const space = 24

// somePeriod returns a short period, which is sometimes not valid.
func somePeriod(r *rand.Rand) api.Period {
	if r.Intn(6) == 0 {
		return invalid[r.Intn(len(invalid))]
	}
	from := r.Intn(space)
	return api.Period{From: from, To: from + r.Intn(7)}
}

// someList returns a list of short periods.
func someList(r *rand.Rand) []api.Period {
	list := make([]api.Period, r.Intn(6))
	for i := range list {
		list[i] = somePeriod(r)
	}
	return list
}

// has reports whether an instant is in the set of a list.
func has(list []api.Period, at int) bool {
	return slices.ContainsFunc(list, func(p api.Period) bool { return Contains(p, at) })
}

// canonical reports whether a list is canonical.
func canonical(list []api.Period) bool {
	for i, p := range list {
		if !Valid(p) || i > 0 && list[i-1].To >= p.From {
			return false
		}
	}
	return true
}

// P4.4
func TestCover(t *testing.T) {
	cases := []struct{ list, want []api.Period }{
		{nil, nil},
		{[]api.Period{}, nil},
		{invalid, nil},
		{[]api.Period{{From: 5, To: 8}, {From: 0, To: 5}, {From: 9, To: 9}, {From: 10, To: 12}}, []api.Period{{From: 0, To: 8}, {From: 10, To: 12}}},
		{[]api.Period{{From: 0, To: 10}, {From: 3, To: 4}, {From: 10, To: 12}}, []api.Period{{From: 0, To: 12}}},
		{[]api.Period{{From: 0, To: 10}, {From: 0, To: 10}}, []api.Period{{From: 0, To: 10}}},
		{[]api.Period{{From: 0, To: 10}, {From: 0, To: 12}, {From: 5, To: 6}}, []api.Period{{From: 0, To: 12}}},
		{[]api.Period{{From: 11, To: 12}, {From: 0, To: 10}}, []api.Period{{From: 0, To: 10}, {From: 11, To: 12}}},
		{[]api.Period{{From: 3, To: 2}, {From: 7, To: api.Forever}, {From: -3, To: 5}, {From: 2, To: 3}}, []api.Period{{From: 2, To: 3}, {From: 7, To: api.Forever}}},
		{[]api.Period{{From: 0, To: api.Forever + 1}, {From: 0, To: api.Forever}}, []api.Period{{From: 0, To: api.Forever}}},
		{[]api.Period{{From: 1, To: 2}, {From: 2, To: 3}, {From: 3, To: 4}}, []api.Period{{From: 1, To: 4}}},
	}
	for _, c := range cases {
		if got := Cover(c.list); !slices.Equal(got, c.want) {
			t.Error(c, got)
		}
	}
}

// P4.5
func TestMinus(t *testing.T) {
	ten := []api.Period{{From: 0, To: 10}}
	cases := []struct{ a, b, want []api.Period }{
		{ten, []api.Period{{From: 3, To: 4}}, []api.Period{{From: 0, To: 3}, {From: 4, To: 10}}},
		{ten, nil, ten},
		{nil, ten, nil},
		{nil, nil, nil},
		{ten, ten, nil},
		{ten, invalid, ten},
		{invalid, ten, nil},
		{ten, []api.Period{{From: 0, To: api.Forever}}, nil},
		{ten, []api.Period{{From: 10, To: 20}}, ten},
		{ten, []api.Period{{From: 5, To: 20}}, []api.Period{{From: 0, To: 5}}},
		{ten, []api.Period{{From: 0, To: 9}}, []api.Period{{From: 9, To: 10}}},
		{ten, []api.Period{{From: 6, To: 8}, {From: 2, To: 4}, {From: 3, To: 6}}, []api.Period{{From: 0, To: 2}, {From: 8, To: 10}}},
		{[]api.Period{{From: 0, To: 5}, {From: 5, To: 10}}, []api.Period{{From: 10, To: 11}}, ten},
		{[]api.Period{{From: 0, To: 5}, {From: 4, To: 10}}, []api.Period{{From: 4, To: 5}}, []api.Period{{From: 0, To: 4}, {From: 5, To: 10}}},
	}
	for _, c := range cases {
		if got := Minus(c.a, c.b); !slices.Equal(got, c.want) {
			t.Error(c, got)
		}
	}
}

// P4.6
func TestCommon(t *testing.T) {
	ten := []api.Period{{From: 0, To: 10}}
	cases := []struct{ a, b, want []api.Period }{
		{ten, []api.Period{{From: 8, To: 12}, {From: 2, To: 3}}, []api.Period{{From: 2, To: 3}, {From: 8, To: 10}}},
		{ten, nil, nil},
		{nil, nil, nil},
		{ten, ten, ten},
		{ten, invalid, nil},
		{ten, []api.Period{{From: 10, To: 20}}, nil},
		{ten, []api.Period{{From: 0, To: 5}, {From: 5, To: 10}}, ten},
		{ten, []api.Period{{From: 0, To: api.Forever}}, ten},
		{[]api.Period{{From: 0, To: 5}, {From: 5, To: 10}}, []api.Period{{From: 0, To: 3}, {From: 3, To: 9}}, []api.Period{{From: 0, To: 9}}},
	}
	for _, c := range cases {
		if got := Common(c.a, c.b); !slices.Equal(got, c.want) {
			t.Error(c, got)
		}
		if got := Common(c.b, c.a); !slices.Equal(got, c.want) {
			t.Error(c, got)
		}
	}
}

// P4.7
func TestTotal(t *testing.T) {
	cases := []struct {
		list []api.Period
		want int
	}{
		{[]api.Period{{From: 0, To: 10}, {From: 5, To: 20}}, 20},
		{nil, 0},
		{invalid, 0},
		{[]api.Period{{From: 0, To: 10}, {From: 0, To: 10}}, 10},
		{[]api.Period{{From: 12, To: 13}, {From: 0, To: 10}, {From: 20, To: 19}}, 11},
		{[]api.Period{{From: 0, To: api.Forever}, {From: 0, To: api.Forever}}, api.Forever},
	}
	for _, c := range cases {
		if got := Total(c.list); got != c.want {
			t.Error(c, got)
		}
	}
}

// P4.8, P4.9: instant by instant.
func TestSetsOfInstants(t *testing.T) {
	r := rand.New(rand.NewSource(4))
	for range 4000 {
		a, b := someList(r), someList(r)
		cover, minus, common := Cover(a), Minus(a, b), Common(a, b)
		if !canonical(cover) || !canonical(minus) || !canonical(common) {
			t.Fatal(a, b, cover, minus, common)
		}
		count := 0
		for at := -2; at < space+10; at++ {
			inA, inB := has(a, at), has(b, at)
			if has(cover, at) != inA || has(minus, at) != (inA && !inB) || has(common, at) != (inA && inB) {
				t.Fatal(a, b, at, cover, minus, common)
			}
			if inA {
				count++
			}
		}
		if Total(a) != count || Total(a) != Total(minus)+Total(common) {
			t.Fatal(a, b, Total(a), count, Total(minus), Total(common))
		}
	}
}

// anotherList returns another list with the same set: in another order, with doubled, divided and invalid elements.
func anotherList(r *rand.Rand, list []api.Period) []api.Period {
	var other []api.Period
	for _, p := range list {
		other = append(other, p)
		if r.Intn(2) == 0 {
			other = append(other, p)
		}
		if r.Intn(2) == 0 {
			other = append(other, Cut(p, []int{r.Intn(space), r.Intn(space)})...)
		}
		other = append(other, invalid[r.Intn(len(invalid))])
	}
	r.Shuffle(len(other), func(i, j int) { other[i], other[j] = other[j], other[i] })
	return other
}

// P4.8: lists with the same set have the same results.
func TestListsWithTheSameSet(t *testing.T) {
	r := rand.New(rand.NewSource(5))
	for range 2000 {
		a, b := someList(r), someList(r)
		c, d := anotherList(r, a), anotherList(r, b)
		if !slices.Equal(Cover(a), Cover(c)) || !slices.Equal(Minus(a, b), Minus(c, d)) || !slices.Equal(Common(a, b), Common(c, d)) || Total(a) != Total(c) {
			t.Fatal(a, b, c, d)
		}
		if !slices.Equal(Cover(Cover(a)), Cover(a)) || !slices.Equal(Minus(Cover(a), Cover(b)), Minus(a, b)) {
			t.Fatal(a, b)
		}
	}
}

// R5: arguments are left as they are, with their spare capacity, and results are new memory.
func TestArgumentsAreLeft(t *testing.T) {
	periods := []api.Period{{From: 5, To: 8}, {From: 0, To: 6}, {From: 10, To: 12}, {From: 20, To: 30}, {From: 1, To: 2}}
	instants := []int{7, 3, 3, 1, 99, 4}
	list, at := slices.Clone(periods), slices.Clone(instants)
	calls := map[string]func() []api.Period{
		"Cut":    func() []api.Period { return Cut(api.Period{From: 0, To: 10}, at[:4]) },
		"Cover":  func() []api.Period { return Cover(list[:3]) },
		"Minus":  func() []api.Period { return Minus(list[:3], list[3:4]) },
		"Common": func() []api.Period { return Common(list[:3], list[:2]) },
		"Total":  func() []api.Period { Total(list[:3]); return nil },
	}
	for name, call := range calls {
		result, again := call(), call()
		for i := range result {
			result[i] = api.Period{From: -7, To: -7}
		}
		if !slices.Equal(list, periods) || !slices.Equal(at, instants) || slices.Contains(again, api.Period{From: -7, To: -7}) {
			t.Error(name, list, at, again)
		}
	}
}
