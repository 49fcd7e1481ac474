package mediation

import (
	"slices"

	"billing/api"
	"billing/dedup"
	"billing/intake"
	"billing/records"
	"billing/validate"
)

// Check reports whether a state is consistent.
func Check(m api.Mediation) bool {
	return intake.Check(m.Intake) && areUsages(m.Usages) && areWhole(m.Suspense) && areSeenOnce(m) && areRejected(m.Rejects) && isBalanced(Balance(m))
}

// areUsages reports whether usages are numbered from 1 on, and have customers and valid records.
func areUsages(list []api.Usage) bool {
	for i, u := range list {
		if u.Id != i+1 || !isAccount(u.Account) || !isAccount(u.Sub) || validate.Check(record(u)) != api.OK {
			return false
		}
	}
	return true
}

// isAccount reports whether n is the number of an account or of a subscription.
func isAccount(n int) bool { return n >= 1 && n <= api.MaxAccount }

// areWhole reports whether records are valid and whole.
func areWhole(list []api.Record) bool {
	return !slices.ContainsFunc(list, func(r api.Record) bool { return r.Part != 0 || validate.Check(r) != api.OK })
}

// areSeenOnce reports whether the serial numbers of the records in all places are seen, each in one place only.
func areSeenOnce(m api.Mediation) bool {
	all := slices.Concat(m.Suspense, m.Intake.Open)
	for _, u := range m.Usages {
		all = append(all, record(u))
	}
	unseen := func(r api.Record) bool { return !dedup.Has(m.Intake.Seen, r.Source, r.Serial) }
	return !slices.ContainsFunc(all, unseen) && records.Distinct(all)
}

// areRejected reports whether rejects have errors with which the intake refuses records.
func areRejected(list []api.Reject) bool {
	return !slices.ContainsFunc(list, func(r api.Reject) bool { return r.Err != api.ErrTime && r.Err != api.ErrDuplicate })
}

// isBalanced reports whether all records that were read are somewhere.
func isBalanced(b api.Balance) bool {
	return b.Merged >= 0 && b.Read == b.Accepted+b.Merged+b.Rejected+b.Suspended+b.Open
}

// record returns the record of a usage, as far as the usage has it.
func record(u api.Usage) api.Record {
	return api.Record{
		Source: u.Source, Serial: u.Serial, Kind: u.Kind, A: u.A, B: u.B,
		Start: u.Start, Units: u.Units, Trunk: u.Trunk, Inbound: u.Inbound,
	}
}
