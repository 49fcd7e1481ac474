package numbering

import (
	"iter"

	"billing/api"
)

// holders says which subscription received a number, unless it was released, and which subscriptions have ended. These never come back, so what they hold can stay noted.
type holders struct {
	subs  map[string]int
	ended map[int]bool
}

// owner returns the subscription to which a number belongs, or 0.
func (h holders) owner(number string) int {
	if sub := h.subs[number]; !h.ended[sub] {
		return sub
	}
	return 0
}

// note does what an event does to the numbers.
func (h holders) note(e api.Event) {
	switch e.Kind {
	case api.EventNumber:
		h.subs[e.Number] = e.Sub
	case api.EventRelease:
		delete(h.subs, e.Number)
	case api.EventEnd:
		h.ended[e.Sub] = true
	}
}

// instants enumerates the instants of events, each with the holders after all of its events.
func instants(events []api.Event) iter.Seq2[int, holders] {
	return func(yield func(at int, h holders) bool) {
		h := holders{map[string]int{}, map[int]bool{}}
		for i, e := range events {
			h.note(e)
			if i+1 < len(events) && events[i+1].At == e.At {
				continue
			}
			if !yield(e.At, h) {
				return
			}
		}
	}
}
