package calendar

import "billing/api"

const (
	maxAnchor = 28 // the last day that every month has
	months    = (lastYear - firstYear + 1) * 12
)

// Cycle returns the monthly cycle that contains an instant.
func Cycle(anchor, t int) api.Period {
	if !isAnchor(anchor) || t < 0 || t >= api.Forever {
		return api.Period{}
	}
	return cycle(anchor, monthOf(anchor, t))
}

// Cycles returns the cycles that a period touches.
func Cycles(anchor int, p api.Period) []api.Period {
	if !isAnchor(anchor) || p.From < 0 || p.From >= p.To || p.To > api.Forever {
		return nil
	}
	var cycles []api.Period
	for month := monthOf(anchor, p.From); start(anchor, month) < p.To; month++ {
		cycles = append(cycles, cycle(anchor, month))
	}
	return cycles
}

// isAnchor reports whether cycles can begin at the day anchor of each month.
func isAnchor(anchor int) bool {
	return 1 <= anchor && anchor <= maxAnchor
}

// cycle returns the cycle that begins in a month. Months are counted from the first one, 0, on; -1 stands for the time before the first anchor.
func cycle(anchor, month int) api.Period {
	return api.Period{From: start(anchor, month), To: start(anchor, month+1)}
}

// start returns the instant at which the cycle of a month begins; beyond the last month, the end of time.
func start(anchor, month int) int {
	if month < 0 {
		return 0
	}
	if month >= months {
		return api.Forever
	}
	day, _ := Day(api.Date{Year: firstYear + month/12, Month: month%12 + 1, Day: anchor})
	return day * api.Day
}

// monthOf returns the month in which the cycle that contains the instant t begins.
func monthOf(anchor, t int) int {
	date := Date(t / api.Day)
	month := (date.Year-firstYear)*12 + date.Month - 1
	if date.Day < anchor {
		return month - 1
	}
	return month
}
