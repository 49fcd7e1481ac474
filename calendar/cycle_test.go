package calendar

import (
	"math"
	"math/rand"
	"slices"
	"testing"

	"billing/api"
)

// notAnchors are integers that are not anchors.
var notAnchors = []int{0, 29, 30, 31, -1, -28, math.MaxInt, math.MinInt}

// notInstants are integers that are not instants.
var notInstants = []int{-1, -api.Day, api.Forever, api.Forever + 1, math.MaxInt, math.MinInt}

// days returns the period of the days from to to-1.
func days(from, to int) api.Period {
	return api.Period{From: from * api.Day, To: to * api.Day}
}

// allCycles returns the cycles of an anchor by their definition: the days with this number in their month divide the time.
func allCycles(anchor int) []api.Period {
	var cycles []api.Period
	from := 0
	for day := 1; day < api.MaxDays; day++ {
		if Date(day).Day == anchor {
			cycles = append(cycles, days(from, day))
			from = day
		}
	}
	return append(cycles, days(from, api.MaxDays))
}

// P3.5
func TestCycle(t *testing.T) {
	cases := []struct {
		anchor, t int
		want      api.Period
	}{
		{1, 0, days(0, 31)},
		{1, 31*api.Day - 1, days(0, 31)},
		{1, 31 * api.Day, days(31, 60)},
		{15, 0, days(0, 14)},
		{15, 14*api.Day - 1, days(0, 14)},
		{15, 14 * api.Day, days(14, 45)},
		{15, 45 * api.Day, days(45, 74)},
		{2, 0, days(0, 1)},
		{2, api.Day - 1, days(0, 1)},
		{2, api.Day, days(1, 32)},
		{28, 0, days(0, 27)},
		{28, 27 * api.Day, days(27, 58)},
		{28, 58 * api.Day, days(58, 87)},
		{1, api.Forever - 1, days(api.MaxDays-31, api.MaxDays)},
		{28, api.Forever - 1, days(api.MaxDays-4, api.MaxDays)},
		{28, api.Forever - 4*api.Day - 1, days(api.MaxDays-4-30, api.MaxDays-4)},
		{15, 366 * api.Day, days(366-17, 366+14)},
	}
	for _, c := range cases {
		if got := Cycle(c.anchor, c.t); got != c.want {
			t.Error(c, got)
		}
	}
}

// P3.5: example 3 of DOC.md.
func TestCycleOfADate(t *testing.T) {
	inside, _ := Day(api.Date{Year: 2026, Month: 3, Day: 14})
	from, _ := Day(api.Date{Year: 2026, Month: 2, Day: 15})
	if got := Cycle(15, inside*api.Day+api.Day-1); got != days(from, inside+1) {
		t.Error(got)
	}
}

// P3.5
func TestCycleOfInvalidArguments(t *testing.T) {
	for _, anchor := range notAnchors {
		for _, instant := range []int{0, 40 * api.Day, api.Forever - 1} {
			if got := Cycle(anchor, instant); got != (api.Period{}) {
				t.Error(anchor, instant, got)
			}
		}
	}
	for _, instant := range notInstants {
		for _, anchor := range []int{1, 15, 28} {
			if got := Cycle(anchor, instant); got != (api.Period{}) {
				t.Error(anchor, instant, got)
			}
		}
	}
}

// P3.5, P3.9: every cycle of every anchor, at its limits; they tile the time.
func TestEveryCycle(t *testing.T) {
	for anchor := 1; anchor <= 28; anchor++ {
		at := 0
		for _, want := range allCycles(anchor) {
			for _, instant := range []int{want.From, want.From + 1, want.To - api.Day, want.To - 1} {
				if got := Cycle(anchor, instant); got != want {
					t.Fatal(anchor, instant, got, want)
				}
			}
			if want.From != at {
				t.Fatal(anchor, want, at)
			}
			at = want.To
		}
		if at != api.Forever {
			t.Fatal(anchor, at)
		}
	}
}

// P3.6
func TestCycles(t *testing.T) {
	cases := []struct {
		anchor int
		p      api.Period
		want   []api.Period
	}{
		{1, days(0, 32), []api.Period{days(0, 31), days(31, 60)}},
		{1, days(0, 31), []api.Period{days(0, 31)}},
		{1, api.Period{From: 0, To: 31*api.Day + 1}, []api.Period{days(0, 31), days(31, 60)}},
		{1, api.Period{From: 31*api.Day - 1, To: 31 * api.Day}, []api.Period{days(0, 31)}},
		{1, api.Period{From: 31*api.Day - 1, To: 31*api.Day + 1}, []api.Period{days(0, 31), days(31, 60)}},
		{1, days(31, 60), []api.Period{days(31, 60)}},
		{15, days(0, 14), []api.Period{days(0, 14)}},
		{15, days(13, 15), []api.Period{days(0, 14), days(14, 45)}},
		{15, days(14, 75), []api.Period{days(14, 45), days(45, 74), days(74, 105)}},
		{28, days(api.MaxDays-1, api.MaxDays), []api.Period{days(api.MaxDays-4, api.MaxDays)}},
		{28, api.Period{From: api.Forever - 4*api.Day - 1, To: api.Forever}, []api.Period{days(api.MaxDays-34, api.MaxDays-4), days(api.MaxDays-4, api.MaxDays)}},
		{15, api.Period{}, nil},
		{15, api.Period{From: 5, To: 5}, nil},
		{15, api.Period{From: 6, To: 5}, nil},
		{15, api.Period{From: -1, To: 5}, nil},
		{15, api.Period{From: 5, To: api.Forever + 1}, nil},
		{15, api.Period{From: api.Forever, To: api.Forever}, nil},
		{15, api.Period{From: math.MinInt, To: math.MaxInt}, nil},
		{15, api.Period{From: math.MaxInt, To: math.MinInt}, nil},
	}
	for _, c := range cases {
		if got := Cycles(c.anchor, c.p); !slices.Equal(got, c.want) {
			t.Error(c, got)
		}
	}
	for _, anchor := range notAnchors {
		if got := Cycles(anchor, days(0, 100)); len(got) != 0 {
			t.Error(anchor, got)
		}
	}
}

// P3.6: all cycles of every anchor.
func TestCyclesOfAllTime(t *testing.T) {
	for anchor := 1; anchor <= 28; anchor++ {
		if got := Cycles(anchor, days(0, api.MaxDays)); !slices.Equal(got, allCycles(anchor)) {
			t.Error(anchor, len(got))
		}
	}
}

// P3.9: the cycles of a period are adjacent, and those of its instants.
func TestCyclesOfInstants(t *testing.T) {
	r := rand.New(rand.NewSource(3))
	for range 3000 {
		anchor := 1 + r.Intn(28)
		from := r.Intn(api.Forever - 1)
		p := api.Period{From: from, To: min(api.Forever, from+1+r.Intn(200*api.Day))}
		cycles := Cycles(anchor, p)
		if len(cycles) == 0 || cycles[0] != Cycle(anchor, p.From) || cycles[len(cycles)-1] != Cycle(anchor, p.To-1) {
			t.Fatal(anchor, p, cycles)
		}
		for i := range cycles[1:] {
			if cycles[i].To != cycles[i+1].From || Cycle(anchor, cycles[i].To) != cycles[i+1] {
				t.Fatal(anchor, p, cycles)
			}
		}
		for range 5 {
			instant := p.From + r.Intn(p.To-p.From)
			if !slices.Contains(cycles, Cycle(anchor, instant)) {
				t.Fatal(anchor, p, instant)
			}
		}
	}
}

// R5: results are new memory.
func TestCyclesAreNew(t *testing.T) {
	first, again := Cycles(15, days(0, 60)), Cycles(15, days(0, 60))
	first[0] = api.Period{}
	if !slices.Equal(again, []api.Period{days(0, 14), days(14, 45), days(45, 74)}) {
		t.Error(again)
	}
}
