package tariff

import (
	"slices"

	"billing/api"
	"billing/lists"
)

// copied returns a tariff that shares no memory with t.
func copied(t api.Tariff) api.Tariff {
	t.Zones = lists.Copied(t.Zones, func(z api.Zone) api.Zone {
		z.Prefixes = slices.Clone(z.Prefixes)
		return z
	})
	t.Bands = lists.Copied(t.Bands, func(b api.Band) api.Band {
		b.Slots = slices.Clone(b.Slots)
		return b
	})
	t.Rates = lists.Copied(t.Rates, func(r api.Rate) api.Rate {
		r.Steps = slices.Clone(r.Steps)
		return r
	})
	t.Discounts = lists.Copied(t.Discounts, func(d api.Discount) api.Discount {
		d.When.Args = copiedOperands(d.When.Args, map[operands][]api.Expr{})
		return d
	})
	return t
}

// operands identifies a list of operands by its memory.
type operands struct {
	first *api.Expr
	count int
}

// copiedOperands returns a copy of a list of operands that shares no memory with it. open has the copies of the lists that contain it: an expression that contains itself, as an invalid tariff may have one, would otherwise be copied without end.
func copiedOperands(list []api.Expr, open map[operands][]api.Expr) []api.Expr {
	if len(list) == 0 {
		return slices.Clone(list)
	}
	key := operands{&list[0], len(list)}
	if repeated, is := open[key]; is {
		return repeated
	}
	result := slices.Clone(list)
	open[key] = result
	for i := range result {
		result[i].Args = copiedOperands(result[i].Args, open)
	}
	delete(open, key)
	return result
}
