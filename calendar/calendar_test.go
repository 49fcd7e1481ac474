package calendar

import (
	"math"
	"testing"
	"time"

	"billing/api"
)

// notDays are integers on both sides that are not days.
var notDays = []int{-1, api.MaxDays, api.MaxDays + 1, api.Forever, -api.MaxDays, -366, math.MaxInt, math.MaxInt - 1, math.MinInt, math.MinInt + 1}

// civil returns the time of day 0 and n days, as the standard library counts them.
func civil(n int) time.Time { return time.Date(2000, 1, 1+n, 0, 0, 0, 0, time.UTC) }

// P3.1
func TestDay(t *testing.T) {
	cases := []struct {
		date api.Date
		want int
		err  api.Errno
	}{
		{api.Date{Year: 2000, Month: 1, Day: 1}, 0, api.OK},
		{api.Date{Year: 2000, Month: 1, Day: 31}, 30, api.OK},
		{api.Date{Year: 2000, Month: 2, Day: 1}, 31, api.OK},
		{api.Date{Year: 2000, Month: 2, Day: 29}, 59, api.OK},
		{api.Date{Year: 2000, Month: 3, Day: 1}, 60, api.OK},
		{api.Date{Year: 2000, Month: 12, Day: 31}, 365, api.OK},
		{api.Date{Year: 2001, Month: 1, Day: 1}, 366, api.OK},
		{api.Date{Year: 2001, Month: 3, Day: 1}, 425, api.OK},
		{api.Date{Year: 2100, Month: 1, Day: 1}, 36525, api.OK},
		{api.Date{Year: 2399, Month: 12, Day: 31}, api.MaxDays - 1, api.OK},
		{api.Date{}, 0, api.ErrRange},
		{api.Date{Year: 2001, Month: 2, Day: 29}, 0, api.ErrRange},
		{api.Date{Year: 2000, Month: 2, Day: 30}, 0, api.ErrRange},
		{api.Date{Year: 2100, Month: 2, Day: 29}, 0, api.ErrRange},
		{api.Date{Year: 2004, Month: 4, Day: 31}, 0, api.ErrRange},
		{api.Date{Year: 2004, Month: 1, Day: 32}, 0, api.ErrRange},
		{api.Date{Year: 2004, Month: 1, Day: 0}, 0, api.ErrRange},
		{api.Date{Year: 2004, Month: 1, Day: -1}, 0, api.ErrRange},
		{api.Date{Year: 2004, Month: 0, Day: 1}, 0, api.ErrRange},
		{api.Date{Year: 2004, Month: 13, Day: 1}, 0, api.ErrRange},
		{api.Date{Year: 2004, Month: -1, Day: 1}, 0, api.ErrRange},
		{api.Date{Year: 1999, Month: 12, Day: 31}, 0, api.ErrRange},
		{api.Date{Year: 2400, Month: 1, Day: 1}, 0, api.ErrRange},
		{api.Date{Year: -2004, Month: 1, Day: 1}, 0, api.ErrRange},
		{api.Date{Year: 2004, Month: 1, Day: math.MaxInt}, 0, api.ErrRange},
		{api.Date{Year: 2004, Month: 1, Day: math.MinInt}, 0, api.ErrRange},
		{api.Date{Year: 2004, Month: math.MaxInt, Day: 1}, 0, api.ErrRange},
		{api.Date{Year: 2004, Month: math.MinInt, Day: 1}, 0, api.ErrRange},
		{api.Date{Year: math.MaxInt, Month: 1, Day: 1}, 0, api.ErrRange},
		{api.Date{Year: math.MinInt, Month: 1, Day: 1}, 0, api.ErrRange},
	}
	for _, c := range cases {
		if got, err := Day(c.date); got != c.want || err != c.err {
			t.Error(c, got, err)
		}
	}
}

// P3.2
func TestDate(t *testing.T) {
	cases := []struct {
		day  int
		want api.Date
	}{
		{0, api.Date{Year: 2000, Month: 1, Day: 1}},
		{30, api.Date{Year: 2000, Month: 1, Day: 31}},
		{31, api.Date{Year: 2000, Month: 2, Day: 1}},
		{59, api.Date{Year: 2000, Month: 2, Day: 29}},
		{60, api.Date{Year: 2000, Month: 3, Day: 1}},
		{365, api.Date{Year: 2000, Month: 12, Day: 31}},
		{366, api.Date{Year: 2001, Month: 1, Day: 1}},
		{366 + 59, api.Date{Year: 2001, Month: 3, Day: 1}},
		{36524, api.Date{Year: 2099, Month: 12, Day: 31}},
		{api.MaxDays - 1, api.Date{Year: 2399, Month: 12, Day: 31}},
	}
	for _, c := range cases {
		if got := Date(c.day); got != c.want {
			t.Error(c, got)
		}
	}
	for _, day := range notDays {
		if got := Date(day); got != (api.Date{}) {
			t.Error(day, got)
		}
	}
}

// P3.1, P3.2, P3.3: for every day, against the standard library.
func TestEveryDay(t *testing.T) {
	for day := range api.MaxDays {
		year, month, dayOfMonth := civil(day).Date()
		date := api.Date{Year: year, Month: int(month), Day: dayOfMonth}
		if got := Date(day); got != date {
			t.Fatal(day, got, date)
		}
		if got, err := Day(date); got != day || err != api.OK {
			t.Fatal(date, got, err, day)
		}
		if got := Weekday(day); got != (int(civil(day).Weekday())+6)%7 {
			t.Fatal(day, got)
		}
	}
}

// P3.8: Day accepts the valid dates and no others, and Date leads back to them.
func TestDatesAndDays(t *testing.T) {
	accepted := 0
	for year := 1998; year <= 2402; year++ {
		for month := -1; month <= 14; month++ {
			for day := -1; day <= 33; day++ {
				date := api.Date{Year: year, Month: month, Day: day}
				n, err := Day(date)
				if (err == api.OK) != (1 <= day && day <= Length(year, month)) {
					t.Fatal(date, n, err)
				}
				if err == api.OK && Date(n) != date || err != api.OK && (n != 0 || err != api.ErrRange) {
					t.Fatal(date, n, err)
				}
				if err == api.OK {
					accepted++
				}
			}
		}
	}
	if accepted != api.MaxDays {
		t.Error(accepted)
	}
}

// P3.3
func TestWeekday(t *testing.T) {
	for day, want := range []int{5, 6, 0, 1, 2, 3, 4, 5, 6, 0} {
		if got := Weekday(day); got != want {
			t.Error(day, got)
		}
	}
	if got := Weekday(api.MaxDays - 1); got != 4 {
		t.Error(got) // 2399-12-31 is a Friday
	}
	for _, day := range notDays {
		if got := Weekday(day); got != -1 {
			t.Error(day, got)
		}
	}
}

// P3.10
func TestWeeks(t *testing.T) {
	for day := range api.MaxDays - 1 {
		today, tomorrow := Weekday(day), Weekday(day+1)
		if today < 0 || today > 6 || tomorrow != today+1 && (today != 6 || tomorrow != 0) {
			t.Fatal(day, today, tomorrow)
		}
	}
}

// P3.4
func TestLength(t *testing.T) {
	common := []int{0, 31, 28, 31, 30, 31, 30, 31, 31, 30, 31, 30, 31, 0}
	leap := []int{0, 31, 29, 31, 30, 31, 30, 31, 31, 30, 31, 30, 31, 0}
	years := map[int][]int{
		2000: leap, 2001: common, 2002: common, 2003: common, 2004: leap, 2096: leap, 2099: common, 2100: common, 2104: leap,
		2200: common, 2300: common, 2396: leap, 2399: common,
	}
	for year, lengths := range years {
		for month, want := range lengths {
			if got := Length(year, month); got != want {
				t.Error(year, month, got)
			}
		}
	}
	for _, year := range []int{1999, 1996, 1600, 0, -1, -2000, 2400, 2401, 2404, math.MaxInt, math.MinInt} {
		for month := range 14 {
			if got := Length(year, month); got != 0 {
				t.Error(year, month, got)
			}
		}
	}
	for _, month := range []int{0, -1, -2, 13, 14, math.MaxInt, math.MinInt} {
		if got := Length(2004, month); got != 0 {
			t.Error(month, got)
		}
	}
}
