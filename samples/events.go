package samples

import "billing/api"

// Event returns an event at the instant last or soon after it, about one of few accounts, subscriptions, numbers, tariffs and products. Its fields are valid, but what it does may be impossible.
func Event(choose func(n int) int, last int) api.Event {
	e := api.Event{At: last + max(0, choose(8)-4), Kind: kind(choose)}
	account, sub := 1+choose(3), 1+choose(5)
	switch e.Kind {
	case api.EventOpen:
		e.Account, e.Name, e.Value = account, pick(choose, "prepaid", "postpaid"), 1+choose(28)
	case api.EventClose:
		e.Account = account
	case api.EventTopup:
		e.Account, e.Value = account, 1+choose(api.MaxAmount)
	case api.EventFloor:
		e.Account, e.Value = account, -choose(api.MaxAmount+1)
	case api.EventAdd:
		e.Account, e.Sub, e.Name = account, sub, pick(choose, "basic", "plus")
	case api.EventNumber, api.EventRelease:
		e.Sub, e.Number = sub, pick(choose, "4915", "49", "33123456789")
	case api.EventPlan:
		e.Sub, e.Name = sub, pick(choose, "basic", "plus")
	case api.EventProduct, api.EventDrop:
		e.Sub, e.Name = sub, pick(choose, "flat", "a-2", "mail")
	default:
		e.Sub = sub
	}
	return e
}

// kind returns a kind of event. What ends something is rare, so that enough remains, and what can be impossible for several reasons is frequent.
func kind(choose func(n int) int) int {
	frequent := []int{api.EventAdd, api.EventNumber, api.EventRelease, api.EventRelease, api.EventProduct, api.EventDrop, api.EventDrop, api.EventResume, api.EventLeave}
	k := api.EventOpen + choose(api.Events-api.EventOpen+len(frequent))
	if k >= api.Events {
		return frequent[k-api.Events]
	}
	if (k == api.EventClose || k == api.EventEnd) && choose(3) > 0 {
		return api.EventNumber
	}
	return k
}

// pick returns one of some strings.
func pick(choose func(n int) int, list ...string) string {
	return list[choose(len(list))]
}

// Events returns the list of those of some events with which it was accepted, one after the other.
func Events(choose func(n int) int, tries int, accepted func(list []api.Event) bool) []api.Event {
	var list []api.Event
	last := 0
	for range tries {
		list = append(list, Event(choose, last))
		if accepted(list) {
			last = list[len(list)-1].At
		} else {
			list = list[:len(list)-1]
		}
	}
	return list
}

// SomeEvents returns a list like those of Events, which now and then has its last events at the last instant.
func SomeEvents(choose func(n int) int, accepted func(list []api.Event) bool) []api.Event {
	list := Events(choose, choose(250), accepted)
	if choose(4) == 0 {
		for i := len(list) - choose(len(list)+1); i < len(list); i++ {
			list[i].At = api.Forever - 1
		}
	}
	return list
}
