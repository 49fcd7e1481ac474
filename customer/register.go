package customer

import (
	"cmp"
	"iter"
	"maps"
	"slices"

	"billing/api"
)

// register is what events have made: the accounts and the subscriptions by their Ids, and the subscriptions that have a number, by the number.
type register struct {
	accounts map[int]*api.Account
	subs     map[int]*subscription
	owners   map[string]int
}

// subscription is a subscription, which stays known after its end.
type subscription struct {
	api.Sub
	ended bool
}

// newRegister returns a register without accounts and subscriptions.
func newRegister() *register {
	return &register{map[int]*api.Account{}, map[int]*subscription{}, map[string]int{}}
}

// upTo enumerates the events up to the instant t.
func upTo(events []api.Event, t int) iter.Seq[api.Event] {
	return func(yield func(e api.Event) bool) {
		for _, e := range events {
			if e.At > t || !yield(e) {
				return
			}
		}
	}
}

// check returns the error that an event, whose fields have none, has after those that were applied.
func (r *register) check(e api.Event) api.Errno {
	switch e.Kind {
	case api.EventOpen:
		if r.accounts[e.Account] != nil {
			return api.ErrExists
		}
		return api.OK
	case api.EventClose, api.EventAdd, api.EventTopup, api.EventFloor:
		return r.checkAccount(e)
	}
	return r.checkSub(e)
}

// checkAccount checks an event about an account that was opened before.
func (r *register) checkAccount(e api.Event) api.Errno {
	a := r.accounts[e.Account]
	switch {
	case a == nil:
		return api.ErrNotFound
	case a.Closed:
		return api.ErrClosed
	case e.Kind == api.EventAdd && r.subs[e.Sub] != nil:
		return api.ErrExists
	case e.Kind == api.EventClose && len(a.Subs) > 0:
		return api.ErrState
	case (e.Kind == api.EventTopup || e.Kind == api.EventFloor) && !a.Prepaid:
		return api.ErrState
	}
	return api.OK
}

// checkSub checks an event about a subscription that was added before.
func (r *register) checkSub(e api.Event) api.Errno {
	s := r.subs[e.Sub]
	switch {
	case s == nil:
		return api.ErrNotFound
	case s.ended:
		return api.ErrClosed
	case e.Kind == api.EventNumber && r.owners[e.Number] != 0:
		return api.ErrNumber
	case e.Kind == api.EventRelease && r.owners[e.Number] != e.Sub:
		return api.ErrNumber
	case e.Kind == api.EventProduct && slices.Contains(s.Products, e.Name):
		return api.ErrExists
	case e.Kind == api.EventDrop && !slices.Contains(s.Products, e.Name):
		return api.ErrNotFound
	case e.Kind == api.EventSuspend && s.Suspended, e.Kind == api.EventResume && !s.Suspended:
		return api.ErrState
	case e.Kind == api.EventJoin && s.Family, e.Kind == api.EventLeave && !s.Family:
		return api.ErrState
	}
	return api.OK
}

// apply does what an event does. Accounts and subscriptions that are not in the register are left out.
func (r *register) apply(e api.Event) {
	switch e.Kind {
	case api.EventOpen:
		r.accounts[e.Account] = &api.Account{Id: e.Account, Since: e.At, Anchor: e.Value, Prepaid: e.Name == prepaid}
	case api.EventClose:
		if a := r.accounts[e.Account]; a != nil {
			a.Closed = true
		}
	case api.EventAdd:
		r.subs[e.Sub] = &subscription{Sub: api.Sub{Id: e.Sub, Account: e.Account, Since: e.At, Plan: e.Name}}
		if a := r.accounts[e.Account]; a != nil {
			a.Subs = with(a.Subs, e.Sub)
		}
	default:
		if s := r.subs[e.Sub]; s != nil {
			r.change(s, e)
		}
	}
}

// change does what an event does to its subscription.
func (r *register) change(s *subscription, e api.Event) {
	switch e.Kind {
	case api.EventEnd:
		r.end(s)
	case api.EventNumber:
		s.Numbers = with(s.Numbers, e.Number)
		r.owners[e.Number] = s.Id
	case api.EventRelease:
		s.Numbers = without(s.Numbers, e.Number)
		delete(r.owners, e.Number)
	case api.EventPlan:
		s.Plan = e.Name
	case api.EventProduct:
		s.Products = with(s.Products, e.Name)
	case api.EventDrop:
		s.Products = without(s.Products, e.Name)
	case api.EventSuspend, api.EventResume:
		s.Suspended = e.Kind == api.EventSuspend
	case api.EventJoin, api.EventLeave:
		s.Family = e.Kind == api.EventJoin
	}
}

// end takes a subscription from its account, and its numbers from it.
func (r *register) end(s *subscription) {
	s.ended = true
	for _, n := range s.Numbers {
		delete(r.owners, n)
	}
	if a := r.accounts[s.Account]; a != nil {
		a.Subs = without(a.Subs, s.Id)
	}
}

// customers returns the accounts, and the subscriptions that have not ended.
func (r *register) customers() api.Customers {
	var c api.Customers
	for _, id := range slices.Sorted(maps.Keys(r.accounts)) {
		c.Accounts = append(c.Accounts, *r.accounts[id])
	}
	for _, id := range slices.Sorted(maps.Keys(r.subs)) {
		if s := r.subs[id]; !s.ended {
			c.Subs = append(c.Subs, s.Sub)
		}
	}
	return c
}

// with puts an element into an ascending list.
func with[T cmp.Ordered](list []T, x T) []T {
	i, found := slices.BinarySearch(list, x)
	if found {
		return list
	}
	return slices.Insert(list, i, x)
}

// without takes an element out of an ascending list.
func without[T cmp.Ordered](list []T, x T) []T {
	i, found := slices.BinarySearch(list, x)
	if !found {
		return list
	}
	return slices.Delete(list, i, i+1)
}
