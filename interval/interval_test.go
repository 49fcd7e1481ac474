package interval

import (
	"math"
	"math/rand"
	"slices"
	"testing"

	"billing/api"
)

// invalid are periods that are not valid.
var invalid = []api.Period{
	{}, {From: 5, To: 5}, {From: 6, To: 5}, {From: -1, To: 5}, {From: -5, To: -1}, {From: -1, To: 0}, {From: 5, To: 0}, {From: 5, To: -1},
	{From: 0, To: api.Forever + 1}, {From: api.Forever, To: api.Forever}, {From: api.Forever, To: api.Forever + 1}, {From: api.Forever + 1, To: api.Forever + 2},
	{From: math.MinInt, To: math.MaxInt}, {From: math.MaxInt, To: math.MinInt}, {From: 0, To: math.MaxInt}, {From: math.MinInt, To: 5}, {From: 0, To: math.MinInt},
}

// valid are periods that are valid, the longest and the shortest among them.
var valid = []api.Period{
	{From: 0, To: 1}, {From: 0, To: 10}, {From: 3, To: 4}, {From: 5, To: 20}, {From: 0, To: api.Forever}, {From: api.Forever - 1, To: api.Forever}, {From: 10, To: 20},
}

// P4.1
func TestValid(t *testing.T) {
	for _, p := range valid {
		if !Valid(p) {
			t.Error(p)
		}
	}
	for _, p := range invalid {
		if Valid(p) {
			t.Error(p)
		}
	}
}

// P4.1
func TestContains(t *testing.T) {
	for _, p := range valid {
		for at, want := range map[int]bool{p.From - 1: false, p.From: true, p.To - 1: true, p.To: false, math.MinInt: false, math.MaxInt: false} {
			if got := Contains(p, at); got != want {
				t.Error(p, at, got)
			}
		}
	}
	if !Contains(api.Period{From: 0, To: 10}, 5) {
		t.Error("an instant between the limits")
	}
	for _, p := range invalid {
		for _, at := range []int{p.From, p.To, p.To - 1, -1, 0, 1, 4, 5, api.Forever - 1, api.Forever, math.MaxInt, math.MinInt} {
			if Contains(p, at) {
				t.Error(p, at)
			}
		}
	}
}

// P4.2
func TestIntersect(t *testing.T) {
	cases := []struct {
		p, q, want api.Period
		found      bool
	}{
		{api.Period{From: 0, To: 10}, api.Period{From: 5, To: 20}, api.Period{From: 5, To: 10}, true},
		{api.Period{From: 0, To: 10}, api.Period{From: 10, To: 20}, api.Period{}, false},
		{api.Period{From: 0, To: 10}, api.Period{From: 12, To: 20}, api.Period{}, false},
		{api.Period{From: 0, To: 10}, api.Period{From: 9, To: 20}, api.Period{From: 9, To: 10}, true},
		{api.Period{From: 0, To: 10}, api.Period{From: 3, To: 4}, api.Period{From: 3, To: 4}, true},
		{api.Period{From: 0, To: 10}, api.Period{From: 0, To: 10}, api.Period{From: 0, To: 10}, true},
		{api.Period{From: 0, To: 10}, api.Period{From: 0, To: 3}, api.Period{From: 0, To: 3}, true},
		{api.Period{From: 0, To: api.Forever}, api.Period{From: api.Forever - 1, To: api.Forever}, api.Period{From: api.Forever - 1, To: api.Forever}, true},
	}
	for _, c := range cases {
		if got, found := Intersect(c.p, c.q); got != c.want || found != c.found {
			t.Error(c, got, found)
		}
		if got, found := Intersect(c.q, c.p); got != c.want || found != c.found {
			t.Error(c, got, found)
		}
	}
}

// P4.2
func TestIntersectOfInvalidPeriods(t *testing.T) {
	for _, p := range invalid {
		for _, q := range slices.Concat(valid, invalid) {
			if got, found := Intersect(p, q); found || got != (api.Period{}) {
				t.Error(p, q, got)
			}
			if got, found := Intersect(q, p); found || got != (api.Period{}) {
				t.Error(q, p, got)
			}
		}
	}
}

// P4.2: instant by instant.
func TestIntersectInstants(t *testing.T) {
	r := rand.New(rand.NewSource(4))
	for range 3000 {
		p, q := somePeriod(r), somePeriod(r)
		common, found := Intersect(p, q)
		if found != Valid(common) || !found && common != (api.Period{}) {
			t.Fatal(p, q, common, found)
		}
		for at := -2; at < space+4; at++ {
			if Contains(common, at) != (Contains(p, at) && Contains(q, at)) {
				t.Fatal(p, q, common, at)
			}
		}
	}
}

// P4.3
func TestCut(t *testing.T) {
	ten := api.Period{From: 0, To: 10}
	cases := []struct {
		p    api.Period
		at   []int
		want []api.Period
	}{
		{ten, []int{7, 3, 3, 0, 10}, []api.Period{{From: 0, To: 3}, {From: 3, To: 7}, {From: 7, To: 10}}},
		{ten, nil, []api.Period{ten}},
		{ten, []int{}, []api.Period{ten}},
		{ten, []int{0, 10, -1, 11, math.MinInt, math.MaxInt}, []api.Period{ten}},
		{ten, []int{1}, []api.Period{{From: 0, To: 1}, {From: 1, To: 10}}},
		{ten, []int{9, 9, 9}, []api.Period{{From: 0, To: 9}, {From: 9, To: 10}}},
		{api.Period{From: 4, To: 6}, []int{3, 4, 5, 6, 7}, []api.Period{{From: 4, To: 5}, {From: 5, To: 6}}},
		{api.Period{From: 4, To: 5}, []int{3, 4, 5, 6}, []api.Period{{From: 4, To: 5}}},
		{api.Period{From: 0, To: api.Forever}, []int{api.Forever, api.Forever - 1}, []api.Period{{From: 0, To: api.Forever - 1}, {From: api.Forever - 1, To: api.Forever}}},
	}
	for _, c := range cases {
		if got := Cut(c.p, c.at); !slices.Equal(got, c.want) {
			t.Error(c, got)
		}
	}
	for _, p := range invalid {
		if got := Cut(p, []int{1, 2, 3, 0, -1}); len(got) != 0 {
			t.Error(p, got)
		}
	}
}

// P4.3, P4.9: the parts are adjacent, begin where they may, and add up to the period.
func TestCutParts(t *testing.T) {
	r := rand.New(rand.NewSource(4))
	for range 3000 {
		p := somePeriod(r)
		at := make([]int, r.Intn(8))
		for i := range at {
			at[i] = r.Intn(space+4) - 2
		}
		parts := Cut(p, at)
		if !Valid(p) {
			if len(parts) != 0 {
				t.Fatal(p, at, parts)
			}
			continue
		}
		next, length := p.From, 0
		for i, part := range parts {
			if !Valid(part) || part.From != next || i > 0 && !slices.Contains(at, part.From) {
				t.Fatal(p, at, parts)
			}
			for instant := part.From + 1; instant < part.To; instant++ {
				if slices.Contains(at, instant) {
					t.Fatal(p, at, parts, instant)
				}
			}
			next = part.To
			length += part.To - part.From
		}
		if next != p.To || length != p.To-p.From {
			t.Fatal(p, at, parts)
		}
	}
}
