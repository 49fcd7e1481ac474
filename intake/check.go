package intake

import (
	"slices"

	"billing/api"
	"billing/batch"
	"billing/correlate"
	"billing/dedup"
	"billing/records"
	"billing/validate"
)

// Check reports whether a state is consistent.
func Check(in api.Intake) bool {
	return dedup.Check(in.Seen) && isOpen(in.Open) && areSeen(in.Open, in.Seen) && inSequence(in.Heads) && areCounted(in.Seen, in.Heads)
}

// isOpen reports whether a list is an open list: if it consists of parts, joining them must leave the list as it is.
func isOpen(list []api.Record) bool {
	for _, p := range list {
		if p.Part == 0 || validate.Check(p) != api.OK {
			return false
		}
	}
	wholes, open := correlate.Join(nil, list)
	return len(wholes) == 0 && slices.Equal(open, list)
}

// areSeen reports whether the serial numbers of open parts are seen, each of one part only.
func areSeen(open []api.Record, seen []api.Range) bool {
	unseen := func(p api.Record) bool { return !dedup.Has(seen, p.Source, p.Serial) }
	return !slices.ContainsFunc(open, unseen) && records.Distinct(open)
}

// inSequence reports whether headers are those of batches that can be taken one after the other.
func inSequence(heads []api.Head) bool {
	for i, h := range heads {
		b := api.Batch{Source: h.Source, Number: h.Number, Format: h.Format}
		if batch.Check(b) != api.OK || h.Count < 0 || h.Count > api.MaxRecords || !follows(heads[:i], h) {
			return false
		}
	}
	return true
}

// areCounted reports whether no source has more serial numbers than records. The ranges must be canonical, the headers in sequence.
func areCounted(seen []api.Range, heads []api.Head) bool {
	var left [api.MaxSource + 1]int
	for _, h := range heads {
		left[h.Source] += h.Count
	}
	for _, r := range seen {
		left[r.Source] -= r.To - r.From + 1
		if left[r.Source] < 0 {
			return false
		}
	}
	return true
}
