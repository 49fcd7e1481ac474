package subscribe

import (
	"slices"

	"billing/api"
	"billing/interval"
	"billing/lists"
)

// parts returns what a subscription is from each event about it to the next one, if there is any time between them.
func parts(events []api.Event, sub int) []api.Spell {
	// Events about accounts have the Sub 0, which is no subscription.
	own := lists.Filter(events, func(e api.Event) bool { return e.Sub == sub && sub != 0 })
	var list []api.Spell
	var s api.Spell
	for i, e := range own {
		if e.Kind == api.EventEnd {
			break // it is the last one: an ended subscription has no further events
		}
		s = after(s, e)
		s.Period = api.Period{From: e.At, To: api.Forever}
		if i+1 < len(own) {
			s.Period.To = own[i+1].At
		}
		if interval.Valid(s.Period) {
			list = append(list, s)
		}
	}
	return list
}

// after returns what an event makes of a subscription. It replaces a list of products instead of changing it, since earlier parts have it, too.
func after(s api.Spell, e api.Event) api.Spell {
	switch e.Kind {
	case api.EventAdd, api.EventPlan:
		s.Plan = e.Name
	case api.EventProduct:
		i, _ := slices.BinarySearch(s.Products, e.Name)
		s.Products = slices.Concat(s.Products[:i], []string{e.Name}, s.Products[i:])
	case api.EventDrop:
		s.Products = lists.Filter(s.Products, func(name string) bool { return name != e.Name })
	case api.EventSuspend, api.EventResume:
		s.Suspended = e.Kind == api.EventSuspend
	case api.EventJoin, api.EventLeave:
		s.Family = e.Kind == api.EventJoin
	}
	return s
}
