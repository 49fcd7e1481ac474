package records

import (
	"slices"
	"strconv"
	"testing"

	"billing/api"
)

// decode makes a record of its serial number, or an error of a negative one.
func decode(s string) (api.Record, api.Errno) {
	n, _ := strconv.Atoi(s)
	if n < 0 {
		return api.Record{}, api.Errno(-n)
	}
	return api.Record{Serial: n}, api.OK
}

// Records and rejects are in the order of the parts, and the position of a reject counts all of them.
func TestCollect(t *testing.T) {
	list, rejects := Collect([]string{"-5", "3", "1", "-6", "-1", "3"}, decode)
	if !slices.Equal(list, []api.Record{{Serial: 3}, {Serial: 1}, {Serial: 3}}) {
		t.Error(list)
	}
	if !slices.Equal(rejects, []api.Reject{{Index: 0, Err: 5}, {Index: 3, Err: 6}, {Index: 4, Err: 1}}) {
		t.Error(rejects)
	}
	if list, rejects := Collect(nil, decode); len(list)+len(rejects) != 0 {
		t.Error(list, rejects)
	}
}

// Records that a check accepts are divided from the others, which are identified; the check sees each record once, in order.
func TestDivide(t *testing.T) {
	list := []api.Record{{Source: 1, Serial: 4, Units: 5}, {Source: -2, Serial: 3}, {}, {Source: 1, Serial: 4, Units: 6}, {Source: 1, Serial: 9, Units: 5}}
	var checked []api.Record
	passed, rejects := Divide(list, func(r api.Record) api.Errno {
		checked = append(checked, r)
		return api.Errno(r.Units)
	})
	if !slices.Equal(checked, list) {
		t.Error(checked)
	}
	if !slices.Equal(passed, []api.Record{list[1], list[2]}) {
		t.Error(passed)
	}
	if !slices.Equal(rejects, []api.Reject{{Source: 1, Serial: 4, Err: 5}, {Source: 1, Serial: 4, Index: 3, Err: 6}, {Source: 1, Serial: 9, Index: 4, Err: 5}}) {
		t.Error(rejects)
	}
}
