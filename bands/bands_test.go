package bands

import (
	"math"
	"math/rand"
	"slices"
	"strconv"
	"testing"
	"time"

	"billing/api"
)

// The days 2 to 8 are the first whole week: Monday is day 2.
const (
	monday   = 2
	friday   = 6
	saturday = 7
	sunday   = 8
)

// week is the list of the chapter's examples.
func week() []api.Band {
	return []api.Band{{Name: "work", Slots: []api.Slot{{Days: 31, From: 480, To: 1080}}}, {Name: "free"}}
}

// invalidLists are lists that Check refuses.
func invalidLists() [][]api.Band {
	w := week()
	return [][]api.Band{nil, {}, {w[1], w[0]}, {w[0]}, {w[0], w[0], w[1]}, {{Name: "Work"}}, {{Name: "a", Slots: []api.Slot{{Days: 256, From: 0, To: 1}}}, w[1]}}
}

// invalidPeriods are periods that are not valid, or longer than MaxSpan.
var invalidPeriods = []api.Period{
	{}, {From: 5, To: 5}, {From: 6, To: 5}, {From: -1, To: 5}, {From: -1, To: 0}, {From: 5, To: -1},
	{From: api.Forever - 1, To: api.Forever + 1}, {From: api.Forever, To: api.Forever}, {From: api.Forever, To: api.Forever + 1},
	{From: math.MinInt, To: math.MaxInt}, {From: math.MaxInt, To: math.MinInt}, {From: 0, To: math.MaxInt}, {From: math.MinInt, To: 5}, {From: 0, To: math.MinInt},
	{From: 0, To: api.MaxSpan + 1}, {From: 100, To: api.MaxSpan + 101}, {From: 0, To: api.Forever}, {From: api.Forever - api.MaxSpan - 1, To: api.Forever},
}

// at returns the instant of a time of a day.
func at(day, hour, minute, second int) int {
	return day*api.Day + hour*3600 + minute*60 + second
}

// model finds the band of an instant as the chapter defines it, with the weekdays of the standard library.
func model(list []api.Band, holidays []int, t int) string {
	weekday := time.Date(2000, 1, 1+t/api.Day, 0, 0, 0, 0, time.UTC).Weekday()
	bit := (int(weekday) + 6) % 7 // Monday is 0
	for _, h := range holidays {
		if h == t/api.Day {
			bit = 7
		}
	}
	for _, b := range list {
		for _, s := range b.Slots {
			if s.Days>>bit&1 == 1 && s.From*60 <= t%api.Day && t%api.Day < s.To*60 {
				return b.Name
			}
		}
	}
	return list[len(list)-1].Name
}

// someBands returns a valid list of a few bands with overlapping slots, whose limits are multiples of step minutes.
func someBands(r *rand.Rand, step int) []api.Band {
	var list []api.Band
	for i := range r.Intn(5) {
		b := api.Band{Name: "b" + strconv.Itoa(i)}
		for range 1 + r.Intn(4) {
			from := r.Intn(1440 / step)
			to := from + 1 + r.Intn(1440/step-from)
			b.Slots = append(b.Slots, api.Slot{Days: 1 + r.Intn(255), From: from * step, To: to * step})
		}
		list = append(list, b)
	}
	return append(list, api.Band{Name: "last"})
}

// someDays returns a list of days, some of which are no days at all, unsorted and with repetitions, near the day around.
func someDays(r *rand.Rand, around int) []int {
	days := []int{-1, math.MinInt, math.MaxInt, api.MaxDays}[:r.Intn(5)]
	days = slices.Clone(days)
	for range r.Intn(6) {
		day := around + r.Intn(8)
		days = append(days, day, day)
	}
	r.Shuffle(len(days), func(i, j int) { days[i], days[j] = days[j], days[i] })
	return days
}

// P5.2: the chapter's example, and the limits of slots, days and time.
func TestAt(t *testing.T) {
	cases := []struct {
		instant  int
		holidays []int
		want     string
	}{
		{at(monday, 8, 0, 0), nil, "work"},
		{at(monday, 7, 59, 59), nil, "free"},
		{at(monday, 17, 59, 59), nil, "work"},
		{at(monday, 18, 0, 0), nil, "free"},
		{at(friday, 12, 0, 0), nil, "work"},
		{at(saturday, 12, 0, 0), nil, "free"},
		{at(sunday, 12, 0, 0), nil, "free"},
		{at(sunday+1, 12, 0, 0), nil, "work"},
		{at(0, 12, 0, 0), nil, "free"},
		{at(monday, 8, 0, 0), []int{monday}, "free"},
		{at(monday, 8, 0, 0), []int{friday, -1, monday, monday, math.MaxInt, 0}, "free"},
		{at(monday, 8, 0, 0), []int{friday, -1, math.MinInt, monday + 1, monday - 1}, "work"},
		{0, nil, "free"},
		{api.Forever - 1, nil, "free"},
		{at(api.MaxDays-1, 12, 0, 0), nil, "work"}, // 2399-12-31 is a Friday
		{-1, nil, ""},
		{api.Forever, nil, ""},
		{-at(3, 12, 0, 0), nil, ""},
		{math.MinInt, nil, ""},
		{math.MaxInt, nil, ""},
	}
	for _, c := range cases {
		if got := At(week(), c.holidays, c.instant); got != c.want {
			t.Error(c, got)
		}
	}
}

// P5.2: one bit for each weekday, and bit 7 alone on holidays.
func TestAtOfEachBit(t *testing.T) {
	for bit := range 8 {
		list := []api.Band{{Name: "slot", Slots: []api.Slot{{Days: 1 << bit, From: 0, To: 1440}}}, {Name: "none"}}
		for day := range 7 {
			noon := at(monday+day, 12, 0, 0)
			if got, want := At(list, nil, noon), map[bool]string{true: "slot", false: "none"}[day == bit]; got != want {
				t.Error(bit, day, got)
			}
			if got, want := At(list, []int{monday + day}, noon), map[bool]string{true: "slot", false: "none"}[bit == 7]; got != want {
				t.Error(bit, day, "holiday", got)
			}
		}
	}
}

// P5.2: the first of several bands whose slots contain the instant.
func TestAtOfOverlappingBands(t *testing.T) {
	list := []api.Band{
		{Name: "noon", Slots: []api.Slot{{Days: 255, From: 720, To: 721}}},
		{Name: "ends", Slots: []api.Slot{{Days: 127, From: 0, To: 60}, {Days: 64, From: 700, To: 800}, {Days: 255, From: 1439, To: 1440}}},
		{Name: "sunday", Slots: []api.Slot{{Days: 64, From: 0, To: 1440}}},
		{Name: "rest"},
	}
	cases := []struct {
		instant  int
		holidays []int
		want     string
	}{
		{at(sunday, 12, 0, 59), nil, "noon"},
		{at(sunday, 12, 1, 0), nil, "ends"},
		{at(sunday, 11, 59, 59), nil, "ends"},
		{at(sunday, 0, 59, 59), nil, "ends"},
		{at(sunday, 1, 0, 0), nil, "sunday"},
		{at(sunday, 23, 58, 59), nil, "sunday"},
		{at(sunday, 23, 59, 0), nil, "ends"},
		{at(sunday, 23, 59, 59), nil, "ends"},
		{at(monday, 1, 0, 0), nil, "rest"},
		{at(sunday, 0, 0, 0), []int{sunday}, "rest"},
		{at(sunday, 12, 0, 0), []int{sunday}, "noon"},
		{at(sunday, 23, 59, 59), []int{sunday}, "ends"},
	}
	for _, c := range cases {
		if got := At(list, c.holidays, c.instant); got != c.want {
			t.Error(c, got)
		}
	}
	if got := At([]api.Band{{Name: "all"}}, nil, 5); got != "all" {
		t.Error(got)
	}
}

// P5.2: against the definition.
func TestAtOfAnyInstant(t *testing.T) {
	r := rand.New(rand.NewSource(1))
	for range 20000 {
		list, day := someBands(r, 5), r.Intn(api.MaxDays)
		holidays := someDays(r, day-3)
		instant := day*api.Day + r.Intn(api.Day)
		if got, want := At(list, holidays, instant), model(list, holidays, instant); got != want {
			t.Fatal(list, holidays, instant, got, want)
		}
	}
}

// P5.2, P5.3, P5.4: lists that are not valid.
func TestInvalidLists(t *testing.T) {
	for _, list := range invalidLists() {
		if got := At(list, nil, at(monday, 12, 0, 0)); got != "" {
			t.Error(list, got)
		}
		if got := Cut(list, nil, api.Period{From: 0, To: 5}); len(got) != 0 {
			t.Error(list, got)
		}
		for _, band := range []string{"work", "free", "a", "Work", ""} {
			if got := Seconds(list, nil, api.Period{From: 0, To: 5}, band); got != 0 {
				t.Error(list, got)
			}
		}
	}
}

// P5.3, P5.4: periods that are not valid or too long.
func TestInvalidPeriods(t *testing.T) {
	for _, p := range invalidPeriods {
		if got := Cut(week(), nil, p); len(got) != 0 {
			t.Error(p, got)
		}
		if work, free := Seconds(week(), nil, p, "work"), Seconds(week(), nil, p, "free"); work != 0 || free != 0 {
			t.Error(p, work, free)
		}
	}
}

// P5.3: the chapter's example, and others.
func TestCut(t *testing.T) {
	shifts := []api.Band{
		{Name: "day", Slots: []api.Slot{{Days: 255, From: 360, To: 720}, {Days: 255, From: 720, To: 1080}, {Days: 127, From: 600, To: 840}}},
		{Name: "eve", Slots: []api.Slot{{Days: 255, From: 1080, To: 1320}}},
		{Name: "night"},
	}
	work := func(from, to int) api.Piece { return api.Piece{Band: "work", Period: api.Period{From: from, To: to}} }
	free := func(from, to int) api.Piece { return api.Piece{Band: "free", Period: api.Period{From: from, To: to}} }
	cases := []struct {
		list     []api.Band
		holidays []int
		p        api.Period
		want     []api.Piece
	}{
		{week(), nil, api.Period{From: 2 * api.Day, To: 3 * api.Day}, []api.Piece{free(2*api.Day, 2*api.Day+28800), work(2*api.Day+28800, 2*api.Day+64800), free(2*api.Day+64800, 3*api.Day)}},
		{week(), []int{monday}, api.Period{From: 2 * api.Day, To: 3 * api.Day}, []api.Piece{free(2*api.Day, 3*api.Day)}},
		// From one day to the next, and over a weekend, free is one piece.
		{week(), nil, api.Period{From: at(monday, 17, 0, 0), To: at(monday+1, 9, 0, 0)}, []api.Piece{work(at(monday, 17, 0, 0), at(monday, 18, 0, 0)), free(at(monday, 18, 0, 0), at(monday+1, 8, 0, 0)), work(at(monday+1, 8, 0, 0), at(monday+1, 9, 0, 0))}},
		{week(), nil, api.Period{From: at(friday, 17, 59, 59), To: at(sunday+1, 8, 0, 1)}, []api.Piece{work(at(friday, 17, 59, 59), at(friday, 18, 0, 0)), free(at(friday, 18, 0, 0), at(sunday+1, 8, 0, 0)), work(at(sunday+1, 8, 0, 0), at(sunday+1, 8, 0, 1))}},
		{week(), []int{monday + 1}, api.Period{From: at(monday, 17, 0, 0), To: at(monday+2, 9, 0, 0)}, []api.Piece{work(at(monday, 17, 0, 0), at(monday, 18, 0, 0)), free(at(monday, 18, 0, 0), at(monday+2, 8, 0, 0)), work(at(monday+2, 8, 0, 0), at(monday+2, 9, 0, 0))}},
		// Periods that begin or end at a limit, or contain none.
		{week(), nil, api.Period{From: at(monday, 8, 0, 0), To: at(monday, 18, 0, 0)}, []api.Piece{work(at(monday, 8, 0, 0), at(monday, 18, 0, 0))}},
		{week(), nil, api.Period{From: at(monday, 7, 59, 59), To: at(monday, 8, 0, 0)}, []api.Piece{free(at(monday, 7, 59, 59), at(monday, 8, 0, 0))}},
		{week(), nil, api.Period{From: at(monday, 7, 59, 59), To: at(monday, 8, 0, 1)}, []api.Piece{free(at(monday, 7, 59, 59), at(monday, 8, 0, 0)), work(at(monday, 8, 0, 0), at(monday, 8, 0, 1))}},
		{week(), nil, api.Period{From: at(monday, 8, 0, 17), To: at(monday, 8, 0, 18)}, []api.Piece{work(at(monday, 8, 0, 17), at(monday, 8, 0, 18))}},
		// Adjacent and overlapping slots of one band are one piece.
		{shifts, nil, api.Period{From: 0, To: api.Day}, []api.Piece{{Band: "night", Period: api.Period{From: 0, To: 21600}}, {Band: "day", Period: api.Period{From: 21600, To: 64800}}, {Band: "eve", Period: api.Period{From: 64800, To: 79200}}, {Band: "night", Period: api.Period{From: 79200, To: api.Day}}}},
		// A slot of the whole day, the longest period, and the beginning and the end of time.
		{[]api.Band{{Name: "all", Slots: []api.Slot{{Days: 255, From: 0, To: 1440}}}, {Name: "free"}}, []int{3}, api.Period{From: 0, To: api.MaxSpan}, []api.Piece{{Band: "all", Period: api.Period{From: 0, To: api.MaxSpan}}}},
		{[]api.Band{{Name: "free"}}, nil, api.Period{From: api.Forever - api.MaxSpan, To: api.Forever}, []api.Piece{free(api.Forever-api.MaxSpan, api.Forever)}},
		{week(), nil, api.Period{From: 0, To: 1}, []api.Piece{free(0, 1)}},
		{week(), nil, api.Period{From: at(api.MaxDays-1, 17, 0, 0), To: api.Forever}, []api.Piece{work(at(api.MaxDays-1, 17, 0, 0), at(api.MaxDays-1, 18, 0, 0)), free(at(api.MaxDays-1, 18, 0, 0), api.Forever)}},
		// Between two days the band may change without a limit of a slot at midnight.
		{[]api.Band{{Name: "work", Slots: []api.Slot{{Days: 1, From: 0, To: 1440}}}, {Name: "free"}}, nil, api.Period{From: at(monday-1, 23, 59, 50), To: at(monday+1, 0, 0, 10)}, []api.Piece{free(at(monday-1, 23, 59, 50), at(monday, 0, 0, 0)), work(at(monday, 0, 0, 0), at(monday+1, 0, 0, 0)), free(at(monday+1, 0, 0, 0), at(monday+1, 0, 0, 10))}},
	}
	for _, c := range cases {
		if got := Cut(c.list, c.holidays, c.p); !slices.Equal(got, c.want) {
			t.Error(c, got)
		}
	}
}

// checkPieces checks that the pieces of a period are adjacent, contain all of its instants and have different neighbours.
func checkPieces(t *testing.T, pieces []api.Piece, p api.Period) {
	t.Helper()
	from := p.From
	for i, piece := range pieces {
		if piece.Period.From != from || piece.Period.To <= from || i > 0 && pieces[i-1].Band == piece.Band {
			t.Fatal(p, i, pieces)
		}
		from = piece.Period.To
	}
	if from != p.To {
		t.Fatal(p, pieces)
	}
}

// P5.3, P5.5: every instant of short periods.
func TestCutOfEveryInstant(t *testing.T) {
	r := rand.New(rand.NewSource(2))
	for range 400 {
		list, day := someBands(r, 1), r.Intn(api.MaxDays-2)
		holidays := someDays(r, day-3)
		from := day*api.Day + r.Intn(api.Day)
		p := api.Period{From: from, To: from + 1 + r.Intn(2000)}
		pieces := Cut(list, holidays, p)
		checkPieces(t, pieces, p)
		for _, piece := range pieces {
			for instant := piece.Period.From; instant < piece.Period.To; instant++ {
				if model(list, holidays, instant) != piece.Band {
					t.Fatal(list, holidays, p, pieces, instant)
				}
			}
		}
	}
}

// P5.3, P5.4, P5.5, P5.6: every quarter of an hour of long periods, with limits that are multiples of it.
func TestCutOfLongPeriods(t *testing.T) {
	const quarter = 900
	r := rand.New(rand.NewSource(3))
	for range 300 {
		list, day := someBands(r, 15), r.Intn(api.MaxDays-32)
		holidays := someDays(r, day+r.Intn(25))
		from := day*api.Day + r.Intn(api.Day)
		p := api.Period{From: from, To: from + 1 + r.Intn(api.MaxSpan)}
		pieces := Cut(list, holidays, p)
		checkPieces(t, pieces, p)
		seconds, total := map[string]int{}, 0
		i := 0
		for instant := p.From; instant < p.To; {
			next := min(instant-instant%quarter+quarter, p.To)
			if instant >= pieces[i].Period.To {
				i++
			}
			if pieces[i].Period.To < next || pieces[i].Band != model(list, holidays, instant) || At(list, holidays, instant) != pieces[i].Band {
				t.Fatal(list, holidays, p, pieces, instant)
			}
			seconds[pieces[i].Band] += next - instant
			instant = next
		}
		for _, b := range list {
			got := Seconds(list, holidays, p, b.Name)
			if got != seconds[b.Name] {
				t.Fatal(list, holidays, p, b.Name, got)
			}
			total += got
		}
		if total != p.To-p.From {
			t.Fatal(list, holidays, p, total)
		}
	}
}

// P5.3: the largest list and the longest period, with a limit in each minute.
func TestCutOfTheLargestList(t *testing.T) {
	list := named(api.MaxList)
	for i := range api.MaxList - 1 {
		list[i].Slots = nil
		for j := range api.MaxList {
			from := (i*api.MaxList + j) * 2 % 1440
			list[i].Slots = append(list[i].Slots, api.Slot{Days: 255, From: from, To: from + 1})
		}
	}
	pieces := Cut(list, nil, api.Period{From: 1, To: api.MaxSpan + 1})
	checkPieces(t, pieces, api.Period{From: 1, To: api.MaxSpan + 1})
	if want := 31*1440 + 1; len(pieces) != want {
		t.Error(len(pieces), want)
	}
}

// P5.4
func TestSeconds(t *testing.T) {
	cases := []struct {
		holidays []int
		p        api.Period
		band     string
		want     int
	}{
		{nil, api.Period{From: 2 * api.Day, To: 3 * api.Day}, "work", 36000},
		{nil, api.Period{From: 2 * api.Day, To: 3 * api.Day}, "free", 50400},
		{nil, api.Period{From: 2 * api.Day, To: 9 * api.Day}, "work", 5 * 36000},
		{[]int{friday}, api.Period{From: 2 * api.Day, To: 9 * api.Day}, "work", 4 * 36000},
		{[]int{saturday}, api.Period{From: 2 * api.Day, To: 9 * api.Day}, "work", 5 * 36000},
		{nil, api.Period{From: 0, To: api.MaxSpan}, "work", 21 * 36000},
		{nil, api.Period{From: 0, To: api.MaxSpan}, "free", api.MaxSpan - 21*36000},
		{nil, api.Period{From: at(monday, 8, 0, 0), To: at(monday, 8, 0, 1)}, "work", 1},
		{nil, api.Period{From: at(monday, 8, 0, 0), To: at(monday, 8, 0, 1)}, "free", 0},
		{nil, api.Period{From: 2 * api.Day, To: 3 * api.Day}, "", 0},
		{nil, api.Period{From: 2 * api.Day, To: 3 * api.Day}, "wor", 0},
		{nil, api.Period{From: 2 * api.Day, To: 3 * api.Day}, "Work", 0},
	}
	for _, c := range cases {
		if got := Seconds(week(), c.holidays, c.p, c.band); got != c.want {
			t.Error(c, got)
		}
	}
}

// R5: arguments are left as they are, with their spare capacity, and results are new memory.
func TestArgumentsAreLeft(t *testing.T) {
	build := func() ([]api.Band, []int) {
		slots := []api.Slot{{Days: 31, From: 900, To: 1080}, {Days: 31, From: 480, To: 960}, {Days: 1, From: 7, To: 5}}
		return []api.Band{{Name: "work", Slots: slots[:2]}, {Name: "free"}, {Name: "spare"}}, []int{9, 4, 4, 3, 8}
	}
	list, holidays := build()
	same, days := build()
	p := api.Period{From: 0, To: 9 * api.Day}
	first := Cut(list[:2], holidays[:4], p)
	want := slices.Clone(first)
	second := Cut(list[:2], holidays[:4], p)
	for i := range first {
		first[i] = api.Piece{}
	}
	At(list[:2], holidays[:4], 5*api.Day)
	Seconds(list[:2], holidays[:4], p, "work")
	Check(list[:2])
	if !slices.Equal(second, want) || !slices.Equal(holidays, days) {
		t.Error(second, holidays)
	}
	for i := range same {
		if list[i].Name != same[i].Name || !slices.Equal(list[i].Slots[:cap(list[i].Slots)], same[i].Slots[:cap(same[i].Slots)]) {
			t.Error(list)
		}
	}
}
