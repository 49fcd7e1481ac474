package calendar

import (
	"strings"
	"testing"
	"time"

	"billing/api"
)

// P3.7
func TestPrint(t *testing.T) {
	cases := map[int]string{
		0: "2000-01-01", 8: "2000-01-09", 9: "2000-01-10", 59: "2000-02-29", 60: "2000-03-01", 274: "2000-10-01",
		366: "2001-01-01", api.MaxDays - 1: "2399-12-31",
	}
	for day, want := range cases {
		if got := Print(day); got != want {
			t.Errorf("%d %q", day, got)
		}
	}
	for _, day := range notDays {
		if got := Print(day); got != "" {
			t.Errorf("%d %q", day, got)
		}
	}
}

// P3.7
func TestParse(t *testing.T) {
	cases := []struct {
		s    string
		want int
		err  api.Errno
	}{
		{"2000-01-01", 0, api.OK},
		{"2000-02-29", 59, api.OK},
		{"2001-01-01", 366, api.OK},
		{"2001-10-20", 366 + 292, api.OK},
		{"2399-12-31", api.MaxDays - 1, api.OK},
		{"2001-02-29", 0, api.ErrRange},
		{"2100-02-29", 0, api.ErrRange},
		{"2001-13-01", 0, api.ErrRange},
		{"2001-00-01", 0, api.ErrRange},
		{"2001-01-00", 0, api.ErrRange},
		{"2001-01-32", 0, api.ErrRange},
		{"2001-04-31", 0, api.ErrRange},
		{"1999-12-31", 0, api.ErrRange},
		{"2400-01-01", 0, api.ErrRange},
		{"0000-00-00", 0, api.ErrRange},
		{"9999-99-99", 0, api.ErrRange},
	}
	for _, c := range cases {
		if got, err := Parse(c.s); got != c.want || err != c.err {
			t.Errorf("%q %d %d", c.s, got, err)
		}
	}
}

// P3.7
func TestParseSyntax(t *testing.T) {
	list := []string{
		"", "2", "-", "2001-1-01", "2001-01-1", "201-01-01", "20001-01-01", "2001-01-001", "2001-001-01", "02001-1-01",
		"2001-01-01 ", " 2001-01-01", "2001-01-01\n", "2001-01-01\x00", "20010101", "2001-01", "2001/01/01", "2001-01/01", "2001/01-01",
		"+001-01-01", "-001-01-01", "2001--1-01", "2001-01--1", "2001-+1-01", "2001- 1-01", "2001-01- 1", "2001-01-0x", "x001-01-01",
		"200--01-01", "2001-0--01", "2001-01-\xff1", "2001-01-\u0661", "\u0662001-01-1", "----------", "0123456789", "01-01-2001", "2001-0101-", "-2001-01-0",
		"20 1-01-01", "20:1-01-01", "20/1-01-01", "2001-:1-01", "2001-01-/1", strings.Repeat("2001-01-01", 100), strings.Repeat("0", 1000),
	}
	for _, s := range list {
		if got, err := Parse(s); got != 0 || err != api.ErrSyntax {
			t.Errorf("%q %d %d", s, got, err)
		}
	}
}

// P3.7: every byte at every position.
func TestParseBytes(t *testing.T) {
	const valid = "2011-11-11"
	for i := range len(valid) {
		for b := range 256 {
			text := []byte(valid)
			text[i] = byte(b)
			isDigit := '0' <= b && b <= '9'
			form := isDigit && valid[i] != '-' || b == '-' && valid[i] == '-'
			if _, err := Parse(string(text)); (err == api.ErrSyntax) == form {
				t.Errorf("%q %d", text, err)
			}
		}
	}
}

// P3.8
func TestTextOfEveryDay(t *testing.T) {
	for day := range api.MaxDays {
		text := Print(day)
		if text != civil(day).Format(time.DateOnly) {
			t.Fatalf("%d %q", day, text)
		}
		if got, err := Parse(text); got != day || err != api.OK {
			t.Fatalf("%q %d %d", text, got, err)
		}
	}
}

// P3.8: Print leads back to every text that Parse accepts, and Parse accepts the dates of all days only.
func TestParseAndPrint(t *testing.T) {
	accepted := 0
	for year := 1999; year <= 2400; year++ {
		for rest := range 10000 {
			text := []byte("0000-00-00")
			for _, part := range []struct{ at, n int }{{0, year / 100}, {2, year % 100}, {5, rest / 100}, {8, rest % 100}} {
				text[part.at], text[part.at+1] = '0'+byte(part.n/10), '0'+byte(part.n%10)
			}
			day, err := Parse(string(text))
			if err == api.OK {
				accepted++
			}
			if err == api.OK && Print(day) != string(text) || err != api.OK && (err != api.ErrRange || day != 0) {
				t.Fatalf("%q %d %d", text, day, err)
			}
		}
	}
	if accepted != api.MaxDays {
		t.Error(accepted)
	}
}
