package calendar

import (
	"strconv"

	"billing/api"
)

// Print returns the text of a day's date.
func Print(day int) string {
	if !validDay(day) {
		return ""
	}
	d := Date(day)
	return strconv.Itoa(d.Year) + "-" + twoDigits(d.Month) + "-" + twoDigits(d.Day)
}

// Parse returns the day that a text denotes.
func Parse(s string) (int, api.Errno) {
	if !isDated(s) {
		return 0, api.ErrSyntax
	}
	return Day(api.Date{Year: number(s[:4]), Month: number(s[5:7]), Day: number(s[8:])})
}

// twoDigits returns the text of a number that is less than 100.
func twoDigits(n int) string {
	return string([]byte{'0' + byte(n/10), '0' + byte(n%10)})
}

// isDated reports whether a text has the form of a date, which need not exist.
func isDated(s string) bool {
	const form = "0000-00-00"
	if len(s) != len(form) {
		return false
	}
	for i := range len(form) {
		if form[i] == '-' && s[i] != '-' {
			return false
		}
		if form[i] != '-' && (s[i] < '0' || s[i] > '9') {
			return false
		}
	}
	return true
}

// number returns the number that a few digits denote.
func number(digits string) int {
	n := 0
	for i := range len(digits) {
		n = 10*n + int(digits[i]-'0')
	}
	return n
}
