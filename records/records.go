// Package records says which usage records are valid, as shared/doc/09-textual.md and 13-validate.md define it, whether they are distinct, collects those that a format decodes, and divides those that a check accepts from the others. Several layers need this.
package records

import (
	"billing/api"
	"billing/digits"
	"billing/numbers"
)

// Check returns the error of a record, and OK if it is valid. The cases have the order of the definition, so each one may rely on those above it.
func Check(r api.Record) api.Errno {
	voice := r.Kind == api.KindVoice
	switch {
	case !numbers.Within(r.Source, 1, api.MaxSource) || !numbers.Within(r.Serial, 1, api.MaxSerial):
		return api.ErrRange
	case !numbers.Within(r.Kind, api.KindVoice, api.Kinds-1):
		return api.ErrKind
	case !digits.Valid(r.A) || !isTarget(r.B, r.Kind):
		return api.ErrNumber
	case !numbers.Within(r.Start, 0, api.Forever-1):
		return api.ErrTime
	case !numbers.Within(r.Units, 0, api.MaxUnits) || voice && r.Units > api.MaxCall:
		return api.ErrRange
	case voice && r.Start+r.Units > api.Forever:
		return api.ErrTime
	case !numbers.Within(r.Call, 0, api.MaxSerial) || !numbers.Within(r.Part, 0, api.MaxParts):
		return api.ErrRange
	case (r.Part == 0) != (r.Call == 0) || r.Last && r.Part == 0:
		return api.ErrInvalid
	case !numbers.Within(r.Trunk, 0, api.MaxTrunk):
		return api.ErrRange
	case r.Inbound && r.Trunk == 0:
		return api.ErrInvalid
	}
	return api.OK
}

// Distinct reports whether no two records have the same source and serial number.
func Distinct(list []api.Record) bool {
	type identity struct{ source, serial int }
	found := map[identity]bool{}
	for _, r := range list {
		id := identity{r.Source, r.Serial}
		if found[id] {
			return false
		}
		found[id] = true
	}
	return true
}

// isTarget reports whether usages of this kind can go to b: a number, or nothing at all for data and content.
func isTarget(b string, kind int) bool {
	if b == "" {
		return kind == api.KindData || kind == api.KindContent
	}
	return digits.Valid(b)
}
