package interval

import (
	"cmp"
	"slices"

	"billing/api"
)

// edge is an instant at which an element of the list with the number list begins (change 1) or ends (change -1).
type edge struct{ at, list, change int }

// Cover returns the canonical list of the instants of some periods.
func Cover(list []api.Period) []api.Period {
	return combine(list, nil, func(inList, _ bool) bool { return inList })
}

// Minus returns the instants of a that are not in b.
func Minus(a, b []api.Period) []api.Period {
	return combine(a, b, func(inA, inB bool) bool { return inA && !inB })
}

// Common returns the instants of both a and b.
func Common(a, b []api.Period) []api.Period {
	return combine(a, b, func(inA, inB bool) bool { return inA && inB })
}

// Total returns the number of instants of a set.
func Total(list []api.Period) int {
	sum := 0
	for _, p := range Cover(list) {
		sum += p.To - p.From
	}
	return sum
}

// combine returns the canonical list of the instants for which member holds; it must not hold for those in neither list.
func combine(a, b []api.Period, member func(inA, inB bool) bool) []api.Period {
	edges := sortedEdges(a, b)
	var result []api.Period
	var open [2]int // how many elements of each list contain the present instant
	from, inside := 0, false
	for i, e := range edges {
		open[e.list] += e.change
		if i+1 < len(edges) && edges[i+1].at == e.at {
			continue // only after the last edge of an instant is it known what contains it
		}
		wasInside := inside
		inside = member(open[0] > 0, open[1] > 0)
		switch {
		case inside && !wasInside:
			from = e.at
		case !inside && wasInside:
			result = append(result, api.Period{From: from, To: e.at})
		}
	}
	return result
}

// sortedEdges returns the edges of the valid elements of some lists in the order of time.
func sortedEdges(lists ...[]api.Period) []edge {
	var edges []edge
	for number, list := range lists {
		for _, p := range list {
			if Valid(p) {
				edges = append(edges, edge{p.From, number, 1}, edge{p.To, number, -1})
			}
		}
	}
	slices.SortFunc(edges, func(x, y edge) int { return cmp.Compare(x.at, y.at) })
	return edges
}
