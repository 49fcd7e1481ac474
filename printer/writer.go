package printer

import (
	"strconv"
	"strings"

	"billing/api"
	"billing/calendar"
	"billing/validate"
)

// lineEnd is the last part of a line.
const lineEnd = ";\n"

// writer writes a printable tariff or expression. It does not go on behind the greatest length that a text can have.
type writer struct {
	text []byte
}

// full reports whether the text is too long.
func (w *writer) full() bool {
	return len(w.text) > api.MaxSourceText
}

// result returns the text, or the error of one that is too long.
func (w *writer) result() (string, api.Errno) {
	if w.full() {
		return "", api.ErrTooLong
	}
	return string(w.text), api.OK
}

// put writes those parts of a line that are not empty.
func (w *writer) put(parts ...string) {
	for _, p := range parts {
		if p == "" || w.full() {
			continue
		}
		if w.apart(p) {
			w.text = append(w.text, ' ')
		}
		w.text = append(w.text, p...)
	}
}

// apart reports whether a space stands between the text and a next part.
func (w *writer) apart(part string) bool {
	if len(w.text) == 0 || part == ")" || part == "," {
		return false
	}
	last := w.text[len(w.text)-1]
	return last != '(' && last != '\n'
}

// tariff writes a tariff.
func (w *writer) tariff(t api.Tariff) {
	w.put("tariff", t.Name, "from", calendar.Print(t.From/api.Day), clock(t.From%api.Day), split(t.Split), lineEnd)
	for _, z := range t.Zones {
		w.zone(z)
	}
	for _, b := range t.Bands {
		w.band(b)
	}
	for _, r := range t.Rates {
		w.rate(r)
	}
	for _, d := range t.Discounts {
		w.put("discount", d.Name, strconv.Itoa(d.Points), "points when")
		w.expr(d.When, 1)
		w.put(lineEnd)
	}
}

// zone writes a zone.
func (w *writer) zone(z api.Zone) {
	w.put("zone", z.Name)
	for i, p := range z.Prefixes {
		w.put(comma(i), p)
	}
	w.put(lineEnd)
}

// band writes a band.
func (w *writer) band(b api.Band) {
	w.put("band", b.Name)
	if len(b.Slots) == 0 {
		w.put("otherwise")
	}
	for i, s := range b.Slots {
		w.put(comma(i), days(s.Days), digits(s.From/60, s.From%60)+"-"+digits(s.To/60, s.To%60))
	}
	w.put(lineEnd)
}

// rate writes a rate.
func (w *writer) rate(r api.Rate) {
	w.put("rate", validate.Name(r.Kind), "to", nameOrAny(r.Zone), "in", nameOrAny(r.Band), optional("setup", r.Setup))
	for i, s := range r.Steps {
		w.put(comma(i), optional("upto", s.Upto), "per", strconv.Itoa(s.Quantum), "at", strconv.Itoa(s.Price))
	}
	w.put(lineEnd)
}

// clock returns the text of a second of the day, which is empty for the first one.
func clock(second int) string {
	if second == 0 {
		return ""
	}
	return digits(second/3600, second/60%60, second%60)
}

// split returns the word for a tariff that is split, and otherwise nothing.
func split(is bool) string {
	if is {
		return "split"
	}
	return ""
}

// comma returns what stands in front of an element of a list.
func comma(i int) string {
	if i == 0 {
		return ""
	}
	return ","
}

// days returns the text of the days of a slot.
func days(bits int) string {
	var list []string
	for i, day := range [8]string{"mon", "tue", "wed", "thu", "fri", "sat", "sun", "holiday"} {
		if bits&(1<<i) != 0 {
			list = append(list, day)
		}
	}
	return strings.Join(list, "+")
}

// digits returns numbers of at most two digits with both digits each, and colons between them.
func digits(list ...int) string {
	var text []byte
	for _, n := range list {
		text = append(text, ':', byte('0'+n/10), byte('0'+n%10))
	}
	return string(text[1:])
}

// nameOrAny returns the text of a name that may be empty.
func nameOrAny(name string) string {
	if name == "" {
		return "any"
	}
	return name
}

// optional returns a word and a number, and nothing for 0.
func optional(word string, n int) string {
	if n == 0 {
		return ""
	}
	return word + " " + strconv.Itoa(n)
}
