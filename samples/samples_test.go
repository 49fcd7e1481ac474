package samples

import (
	"math/rand"
	"testing"

	"billing/api"
	"billing/records"
)

// The records are of use for tests: most are valid, of all kinds and with all optional fields, and all errors occur.
func TestRecord(t *testing.T) {
	rnd := rand.New(rand.NewSource(1))
	found := map[api.Errno]int{}
	valid := map[api.Record]int{} // by kind, and by what is present
	for range 20000 {
		r := Record(rnd.Intn)
		err := records.Check(r)
		found[err]++
		if err == api.OK {
			valid[api.Record{Kind: r.Kind, B: r.B[:min(1, len(r.B))], Part: min(r.Part, 1), Last: r.Last, Trunk: min(r.Trunk, 1), Inbound: r.Inbound}]++
		}
	}
	for _, err := range []api.Errno{api.ErrRange, api.ErrKind, api.ErrNumber, api.ErrTime, api.ErrInvalid} {
		if found[err] < 100 {
			t.Error("error", err, "only", found[err])
		}
	}
	if found[api.OK] < 10000 {
		t.Error("only", found[api.OK], "valid ones")
	}
	// Voice and text with one of ten first digits of B, data and content also without B; whole or a part or the last one; of the own network or out or in.
	if len(valid) != (2*10+2*11)*3*3 {
		t.Error(len(valid), "combinations")
	}
}
