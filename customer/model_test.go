package customer

import (
	"slices"
	"strings"

	"billing/api"
)

// history is a list of events whose effects the model finds by looking back, without keeping a state.
type history []api.Event

// last returns the last event of some kinds about a subscription with these Number and Name, and the zero event if there is none.
func (h history) last(sub int, number, name string, kinds ...int) api.Event {
	for _, e := range slices.Backward(h) {
		if e.Sub == sub && e.Number == number && (name == "" || e.Name == name) && slices.Contains(kinds, e.Kind) {
			return e
		}
	}
	return api.Event{}
}

// about returns the event of a kind about an account, and the zero event if there is none.
func (h history) about(account, kind int) api.Event {
	for _, e := range h {
		if e.Account == account && e.Kind == kind {
			return e
		}
	}
	return api.Event{}
}

// exists reports whether a subscription was added, and has not ended.
func (h history) exists(sub int) bool {
	return h.last(sub, "", "", api.EventAdd).Kind != 0 && h.last(sub, "", "", api.EventEnd).Kind == 0
}

// owns reports whether a subscription has a number.
func (h history) owns(sub int, number string) bool {
	return h.exists(sub) && h.last(sub, number, "", api.EventNumber, api.EventRelease).Kind == api.EventNumber
}

// has reports whether a subscription has a product.
func (h history) has(sub int, product string) bool {
	return h.last(sub, "", product, api.EventProduct, api.EventDrop).Kind == api.EventProduct
}

// suspended reports whether a subscription is suspended.
func (h history) suspended(sub int) bool {
	return h.last(sub, "", "", api.EventSuspend, api.EventResume).Kind == api.EventSuspend
}

// family reports whether a subscription is in the family.
func (h history) family(sub int) bool {
	return h.last(sub, "", "", api.EventJoin, api.EventLeave).Kind == api.EventJoin
}

// taken reports whether somebody has a number.
func (h history) taken(number string) bool {
	return slices.ContainsFunc(h.subs(), func(sub int) bool { return h.owns(sub, number) })
}

// ids returns those Ids of the events that fit, ascending.
func (h history) ids(id func(e api.Event) int, fits func(id int) bool) []int {
	var list []int
	for _, e := range h {
		if n := id(e); n != 0 && fits(n) {
			list = append(list, n)
		}
	}
	slices.Sort(list)
	return slices.Compact(list)
}

// texts returns those texts of the events that fit, ascending.
func (h history) texts(text func(e api.Event) string, fits func(s string) bool) []string {
	var list []string
	for _, e := range h {
		if s := text(e); s != "" && fits(s) {
			list = append(list, s)
		}
	}
	slices.Sort(list)
	return slices.Compact(list)
}

// subs returns the subscriptions that exist.
func (h history) subs() []int {
	return h.ids(func(e api.Event) int { return e.Sub }, h.exists)
}

// account returns an account, which was opened.
func (h history) account(id int) api.Account {
	open := h.about(id, api.EventOpen)
	a := api.Account{Id: id, Since: open.At, Anchor: open.Value, Prepaid: open.Name == "prepaid", Closed: h.about(id, api.EventClose).Kind != 0}
	for _, sub := range h.subs() {
		if h.last(sub, "", "", api.EventAdd).Account == id {
			a.Subs = append(a.Subs, sub)
		}
	}
	return a
}

// sub returns a subscription, which exists.
func (h history) sub(id int) api.Sub {
	add := h.last(id, "", "", api.EventAdd)
	return api.Sub{
		Id:        id,
		Account:   add.Account,
		Since:     add.At,
		Plan:      h.last(id, "", "", api.EventAdd, api.EventPlan).Name,
		Numbers:   h.texts(func(e api.Event) string { return e.Number }, func(s string) bool { return h.owns(id, s) }),
		Products:  h.texts(func(e api.Event) string { return e.Name }, func(s string) bool { return h.has(id, s) }),
		Suspended: h.suspended(id),
		Family:    h.family(id),
	}
}

// at returns the events up to t.
func (h history) at(t int) history {
	return slices.DeleteFunc(slices.Clone(h), func(e api.Event) bool { return e.At > t })
}

// customers returns all accounts and subscriptions.
func (h history) customers() api.Customers {
	var c api.Customers
	opened := func(id int) bool { return h.about(id, api.EventOpen).Kind != 0 }
	for _, id := range h.ids(func(e api.Event) int { return e.Account }, opened) {
		c.Accounts = append(c.Accounts, h.account(id))
	}
	for _, id := range h.subs() {
		c.Subs = append(c.Subs, h.sub(id))
	}
	return c
}

// row is a row of the chapter's table, with a letter for each field that is used: Account (A), Sub (S), Number (#), Name (n, or p for prepaid or postpaid) and Value (v).
type row struct {
	kind        int
	uses        string
	least, most int
}

// table is the chapter's table.
var table = []row{
	{api.EventOpen, "Apv", 1, 28},
	{api.EventClose, "A", 0, 0},
	{api.EventAdd, "ASn", 0, 0},
	{api.EventEnd, "S", 0, 0},
	{api.EventSuspend, "S", 0, 0},
	{api.EventResume, "S", 0, 0},
	{api.EventJoin, "S", 0, 0},
	{api.EventLeave, "S", 0, 0},
	{api.EventNumber, "S#", 0, 0},
	{api.EventRelease, "S#", 0, 0},
	{api.EventPlan, "Sn", 0, 0},
	{api.EventProduct, "Sn", 0, 0},
	{api.EventDrop, "Sn", 0, 0},
	{api.EventTopup, "Av", 1, 1 << 50},
	{api.EventFloor, "Av", -1 << 50, 0},
}

// consists reports whether s has from 1 to most bytes, all of them among the permitted ones.
func consists(s string, most int, permitted string) bool {
	return len(s) >= 1 && len(s) <= most && strings.Trim(s, permitted) == ""
}

// faults returns the errors that an event has, in the order of the chapter, for the fields alone.
func (h history) faults(e api.Event) []api.Errno {
	var list []api.Errno
	fault := func(applies bool, err api.Errno) {
		if applies {
			list = append(list, err)
		}
	}
	i := slices.IndexFunc(table, func(r row) bool { return r.kind == e.Kind })
	if i < 0 {
		return []api.Errno{api.ErrKind}
	}
	uses := func(field string) bool { return strings.Contains(table[i].uses, field) }
	named, sort := uses("n"), uses("p")
	fault(e.At < 0 || e.At > 146097*86400-1, api.ErrTime)
	fault(len(h) > 0 && e.At < h[len(h)-1].At, api.ErrOrder)
	fault(!uses("A") && e.Account != 0, api.ErrInvalid)
	fault(!uses("S") && e.Sub != 0, api.ErrInvalid)
	fault(!uses("#") && e.Number != "", api.ErrInvalid)
	fault(!named && !sort && e.Name != "", api.ErrInvalid)
	fault(!uses("v") && e.Value != 0, api.ErrInvalid)
	fault(uses("A") && (e.Account < 1 || e.Account > 9999), api.ErrRange)
	fault(uses("S") && (e.Sub < 1 || e.Sub > 9999), api.ErrRange)
	letters := "abcdefghijklmnopqrstuvwxyz"
	fault(named && !(consists(e.Name, 24, letters+"0123456789-") && strings.Contains(letters, e.Name[:1])), api.ErrInvalid)
	fault(sort && e.Name != "prepaid" && e.Name != "postpaid", api.ErrInvalid)
	fault(uses("#") && !consists(e.Number, 15, "0123456789"), api.ErrNumber)
	fault(uses("v") && (e.Value < table[i].least || e.Value > table[i].most), api.ErrRange)
	return list
}

// obstacles returns the errors that an event with valid fields has by the preceding ones.
func (h history) obstacles(e api.Event) []api.Errno {
	var list []api.Errno
	fault := func(applies bool, err api.Errno) {
		if applies {
			list = append(list, err)
		}
	}
	switch e.Kind {
	case api.EventOpen:
		fault(h.about(e.Account, api.EventOpen).Kind != 0, api.ErrExists)
	case api.EventClose, api.EventTopup, api.EventFloor, api.EventAdd:
		fault(h.about(e.Account, api.EventOpen).Kind == 0, api.ErrNotFound)
		fault(h.about(e.Account, api.EventClose).Kind != 0, api.ErrClosed)
		if e.Kind == api.EventClose {
			fault(len(h.account(e.Account).Subs) > 0, api.ErrState)
		} else if e.Kind == api.EventAdd {
			fault(h.last(e.Sub, "", "", api.EventAdd).Kind != 0, api.ErrExists)
		} else {
			fault(h.about(e.Account, api.EventOpen).Name != "prepaid", api.ErrState)
		}
	default:
		fault(h.last(e.Sub, "", "", api.EventAdd).Kind == 0, api.ErrNotFound)
		fault(h.last(e.Sub, "", "", api.EventEnd).Kind != 0, api.ErrClosed)
		fault(e.Kind == api.EventNumber && h.taken(e.Number), api.ErrNumber)
		fault(e.Kind == api.EventRelease && !h.owns(e.Sub, e.Number), api.ErrNumber)
		fault(e.Kind == api.EventProduct && h.has(e.Sub, e.Name), api.ErrExists)
		fault(e.Kind == api.EventDrop && !h.has(e.Sub, e.Name), api.ErrNotFound)
		fault(e.Kind == api.EventSuspend && h.suspended(e.Sub), api.ErrState)
		fault(e.Kind == api.EventResume && !h.suspended(e.Sub), api.ErrState)
		fault(e.Kind == api.EventJoin && h.family(e.Sub), api.ErrState)
		fault(e.Kind == api.EventLeave && !h.family(e.Sub), api.ErrState)
	}
	return list
}

// next returns the error of an event after the others.
func (h history) next(e api.Event) api.Errno {
	if faults := h.faults(e); len(faults) > 0 {
		return faults[0]
	}
	return append(h.obstacles(e), api.OK)[0]
}

// check returns the position and the error of the first event that has one.
func (h history) check() (int, api.Errno) {
	if len(h) > 4096 {
		return 0, api.ErrTooLong
	}
	for i, e := range h {
		if err := h[:i].next(e); err != api.OK {
			return i, err
		}
	}
	return 0, api.OK
}
