package parser

import (
	"billing/api"
	"billing/calendar"
	"billing/validate"
)

const (
	dayEnd     = 24 * 60    // the minute of 24:00
	lastMinute = dayEnd - 1 // the one of 23:59
)

// tariff takes a tariff.
func (r *reader) tariff() api.Tariff {
	var t api.Tariff
	r.want("tariff")
	t.Name = r.name()
	r.want("from")
	t.From = r.date() * api.Day
	if isNumber(r.rest[0]) {
		t.From += r.clock()
	}
	t.Split = r.skip("split")
	r.want(";")
	t.Zones = statements(r, "zone", r.zone)
	t.Bands = statements(r, "band", r.band)
	t.Rates = statements(r, "rate", r.rate)
	t.Discounts = statements(r, "discount", r.discount)
	return t
}

// date takes a date, and returns its day.
func (r *reader) date() int {
	first := r.rest[0].Pos
	var d api.Date
	d.Year = r.fixed(4, 9999)
	r.want("-")
	d.Month = r.fixed(2, 99)
	r.want("-")
	d.Day = r.fixed(2, 99)
	day, err := calendar.Day(d)
	if err != api.OK {
		panic(fault{first, api.ErrTime})
	}
	return day
}

// clock takes a clock, and returns its second of the day.
func (r *reader) clock() int {
	minute := r.time(lastMinute)
	r.want(":")
	return 60*minute + r.fixed(2, 59)
}

// time takes a time that is not after a latest one, and returns its minute of the day.
func (r *reader) time(latest int) int {
	hour := r.fixed(2, latest/60)
	r.want(":")
	return 60*hour + r.fixed(2, min(59, latest-60*hour))
}

// zone takes what follows the word zone.
func (r *reader) zone() api.Zone {
	name := r.name()
	return api.Zone{Name: name, Prefixes: listed(r, r.digits)}
}

// band takes what follows the word band.
func (r *reader) band() api.Band {
	name := r.name()
	if r.skip("otherwise") {
		return api.Band{Name: name}
	}
	return api.Band{Name: name, Slots: listed(r, r.slot)}
}

// slot takes a slot.
func (r *reader) slot() api.Slot {
	var s api.Slot
	s.Days = r.days()
	s.From = r.time(lastMinute)
	r.want("-")
	s.To = r.time(dayEnd)
	return s
}

// days takes the days of a slot, which ascend, and returns their bits.
func (r *reader) days() int {
	words := []string{"mon", "tue", "wed", "thu", "fri", "sat", "sun", "holiday"}
	day := r.choice(words, 0)
	bits := 1 << day
	for r.skip("+") {
		day = r.choice(words, day+1)
		bits |= 1 << day
	}
	return bits
}

// rate takes what follows the word rate.
func (r *reader) rate() api.Rate {
	var rate api.Rate
	rate.Kind = r.kind()
	r.want("to")
	rate.Zone = r.nameOrAny()
	r.want("in")
	rate.Band = r.nameOrAny()
	rate.Setup = r.optional("setup")
	rate.Steps = listed(r, r.step)
	return rate
}

// kind takes the name of a kind.
func (r *reader) kind() int {
	t := r.take(func(t api.Token) bool {
		return t.Kind == api.TokenWord && validate.Kind(t.Text) != 0
	})
	return validate.Kind(t.Text)
}

// nameOrAny takes a name, or any for the empty one.
func (r *reader) nameOrAny() string {
	if r.skip("any") {
		return ""
	}
	return r.name()
}

// optional takes a number behind a word, or nothing for 0 if the word is not there.
func (r *reader) optional(word string) int {
	if !r.skip(word) {
		return 0
	}
	return r.number()
}

// step takes a step.
func (r *reader) step() api.Step {
	var s api.Step
	s.Upto = r.optional("upto")
	r.want("per")
	s.Quantum = r.number()
	r.want("at")
	s.Price = r.number()
	return s
}

// discount takes what follows the word discount.
func (r *reader) discount() api.Discount {
	var d api.Discount
	d.Name = r.name()
	d.Points = r.number()
	r.want("points")
	r.want("when")
	d.When = r.expr()
	return d
}
