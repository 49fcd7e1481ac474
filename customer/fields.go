package customer

import (
	"billing/api"
	"billing/digits"
	"billing/names"
	"billing/numbers"
)

// prepaid and postpaid are the names of the sorts of accounts.
const (
	prepaid  = "prepaid"
	postpaid = "postpaid"
)

// fields says which fields a kind of event uses, besides Kind and At, and where its Value lies.
type fields struct {
	account, sub, number, name, value bool
	least, most                       int
}

var used = [api.Events]fields{
	api.EventOpen:    {account: true, name: true, value: true, least: 1, most: 28},
	api.EventClose:   {account: true},
	api.EventAdd:     {account: true, sub: true, name: true},
	api.EventEnd:     {sub: true},
	api.EventNumber:  {sub: true, number: true},
	api.EventRelease: {sub: true, number: true},
	api.EventPlan:    {sub: true, name: true},
	api.EventProduct: {sub: true, name: true},
	api.EventDrop:    {sub: true, name: true},
	api.EventSuspend: {sub: true},
	api.EventResume:  {sub: true},
	api.EventJoin:    {sub: true},
	api.EventLeave:   {sub: true},
	api.EventTopup:   {account: true, value: true, least: 1, most: api.MaxAmount},
	api.EventFloor:   {account: true, value: true, least: -api.MaxAmount, most: 0},
}

// checkFields returns the error that an event has by itself, after one at the instant last.
func checkFields(e api.Event, last int) api.Errno {
	if !numbers.Within(e.Kind, api.EventOpen, api.Events-1) {
		return api.ErrKind
	}
	f := used[e.Kind]
	switch {
	case !numbers.Within(e.At, 0, api.Forever-1):
		return api.ErrTime
	case e.At < last:
		return api.ErrOrder
	case f.unused(e) != api.Event{At: e.At, Kind: e.Kind}:
		return api.ErrInvalid
	case f.account && !numbers.Within(e.Account, 1, api.MaxAccount) || f.sub && !numbers.Within(e.Sub, 1, api.MaxAccount):
		return api.ErrRange
	case f.name && !isName(e):
		return api.ErrInvalid
	case f.number && !digits.Valid(e.Number):
		return api.ErrNumber
	case f.value && !numbers.Within(e.Value, f.least, f.most):
		return api.ErrRange
	}
	return api.OK
}

// unused returns an event without the fields that are used.
func (f fields) unused(e api.Event) api.Event {
	if f.account {
		e.Account = 0
	}
	if f.sub {
		e.Sub = 0
	}
	if f.number {
		e.Number = ""
	}
	if f.name {
		e.Name = ""
	}
	if f.value {
		e.Value = 0
	}
	return e
}

// isName reports whether the Name of an event is one that its kind permits.
func isName(e api.Event) bool {
	if e.Kind == api.EventOpen {
		return e.Name == prepaid || e.Name == postpaid
	}
	return names.Valid(e.Name)
}
