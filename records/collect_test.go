package records

import (
	"slices"
	"strconv"
	"testing"

	"billing/api"
)

// decode makes a record of its serial number, or an error of a negative one.
func decode(s string) (api.Record, api.Errno) {
	n, _ := strconv.Atoi(s)
	if n < 0 {
		return api.Record{}, api.Errno(-n)
	}
	return api.Record{Serial: n}, api.OK
}

// Records and rejects are in the order of the parts, and the position of a reject counts all of them.
func TestCollect(t *testing.T) {
	list, rejects := Collect([]string{"-5", "3", "1", "-6", "-1", "3"}, decode)
	if !slices.Equal(list, []api.Record{{Serial: 3}, {Serial: 1}, {Serial: 3}}) {
		t.Error(list)
	}
	if !slices.Equal(rejects, []api.Reject{{Index: 0, Err: 5}, {Index: 3, Err: 6}, {Index: 4, Err: 1}}) {
		t.Error(rejects)
	}
	if list, rejects := Collect(nil, decode); len(list)+len(rejects) != 0 {
		t.Error(list, rejects)
	}
}
