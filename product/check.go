package product

import (
	"cmp"

	"billing/amount"
	"billing/api"
	"billing/names"
	"billing/numbers"
)

// maxPriority is the greatest Priority of a bundle.
const maxPriority = 99

// Check validates products.
func Check(list []api.Product) api.Errno {
	if len(list) > api.MaxRecords {
		return api.ErrTooLong
	}
	for i, p := range list {
		if err := checkProduct(p); err != api.OK {
			return err
		}
		if i > 0 && compare(list[i-1], p) >= 0 {
			return api.ErrOrder
		}
	}
	return api.OK
}

// compare compares the keys of two products.
func compare(p, q api.Product) int {
	return cmp.Or(cmp.Compare(p.Name, q.Name), cmp.Compare(p.From, q.From))
}

// checkProduct returns the error that a product has by itself.
func checkProduct(p api.Product) api.Errno {
	switch {
	case !names.Valid(p.Name):
		return api.ErrInvalid
	case !numbers.Within(p.From, 0, api.Forever-1):
		return api.ErrTime
	case p.Fee < 0 || !amount.Valid(p.Fee):
		return api.ErrRange
	case !names.Valid(p.Category):
		return api.ErrInvalid
	case len(p.Bundles) > api.MaxList:
		return api.ErrTooLong
	}
	for _, b := range p.Bundles {
		if err := checkBundle(b); err != api.OK {
			return err
		}
	}
	return api.OK
}

// checkBundle returns the error of a bundle.
func checkBundle(b api.Bundle) api.Errno {
	if !numbers.Within(b.Kind, api.KindVoice, api.Kinds-1) {
		return api.ErrKind
	}
	if err := checkZones(b.Zones); err != api.OK {
		return err
	}
	if !numbers.Within(b.Units, 1, api.MaxUnits) || !numbers.Within(b.Rollover, 0, api.MaxUnits) || !numbers.Within(b.Priority, 0, maxPriority) {
		return api.ErrRange
	}
	return api.OK
}

// checkZones returns the error of the zones of a bundle: their order counts only if all of them are names.
func checkZones(zones []string) api.Errno {
	if len(zones) > api.MaxList {
		return api.ErrTooLong
	}
	for _, z := range zones {
		if !names.Valid(z) {
			return api.ErrInvalid
		}
	}
	for i := 1; i < len(zones); i++ {
		if zones[i-1] >= zones[i] {
			return api.ErrOrder
		}
	}
	return api.OK
}
