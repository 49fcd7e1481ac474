package correlate

import (
	"math/rand"
	"slices"

	"billing/api"
	"billing/validate"
)

// modelWhole returns the whole of a list of parts: the definition, word by word.
func modelWhole(parts []api.Record) (api.Record, bool) {
	if len(parts) == 0 {
		return api.Record{}, false
	}
	f := parts[0]
	units := 0
	for _, p := range parts {
		if validate.Check(p) != api.OK || p.Part == 0 {
			return api.Record{}, false
		}
		if p.Source != f.Source || p.Call != f.Call || p.Kind != f.Kind || p.A != f.A || p.B != f.B || p.Trunk != f.Trunk || p.Inbound != f.Inbound {
			return api.Record{}, false
		}
		units += p.Units
	}
	r := api.Record{Source: f.Source, Serial: f.Serial, Kind: f.Kind, A: f.A, B: f.B, Start: f.Start, Units: units, Trunk: f.Trunk, Inbound: f.Inbound}
	if validate.Check(r) != api.OK {
		return api.Record{}, false
	}
	return r, true
}

// modelComplete returns the whole of a complete list.
func modelComplete(parts []api.Record) (api.Record, bool) {
	r, ok := modelWhole(parts)
	for i, p := range parts {
		if p.Part != i+1 || p.Last != (i+1 == len(parts)) {
			return api.Record{}, false
		}
	}
	return r, ok
}

// behind reports whether part a stands behind part b in an open list, because of its source, its call or its number.
func behind(a, b api.Record) bool {
	if a.Source != b.Source {
		return a.Source > b.Source
	}
	if a.Call != b.Call {
		return a.Call > b.Call
	}
	return a.Part > b.Part
}

// firstParts returns the positions of the first parts with Part 1, 2, 3 and so on of p's call.
func firstParts(open []api.Record, p api.Record) []int {
	var list []int
	for k := 1; ; k++ {
		i := slices.IndexFunc(open, func(q api.Record) bool { return q.Source == p.Source && q.Call == p.Call && q.Part == k })
		if i < 0 {
			return list
		}
		list = append(list, i)
	}
}

// candidates returns the positions of the candidates of p's call.
func candidates(open []api.Record, p api.Record) []int {
	list := firstParts(open, p)
	for k, i := range list {
		if open[i].Last {
			return list[:k+1]
		}
	}
	return list
}

// at returns the parts at positions, and the other parts.
func at(open []api.Record, positions []int) (chosen, others []api.Record) {
	for _, i := range positions {
		chosen = append(chosen, open[i])
	}
	for i, p := range open {
		if !slices.Contains(positions, i) {
			others = append(others, p)
		}
	}
	return chosen, others
}

// modelJoin joins a list with an open list, part by part.
func modelJoin(open, list []api.Record) (wholes, still []api.Record) {
	still = slices.Clone(open)
	for _, r := range list {
		if r.Part == 0 {
			wholes = append(wholes, r)
			continue
		}
		place := len(still)
		for place > 0 && behind(still[place-1], r) {
			place--
		}
		still = slices.Insert(still, place, r)
		for {
			chosen, others := at(still, candidates(still, r))
			w, ok := modelComplete(chosen)
			if !ok {
				break
			}
			wholes, still = append(wholes, w), others
		}
	}
	return wholes, still
}

// modelExpire ends the calls of an open list none of whose parts begins at before or later.
func modelExpire(open []api.Record, before int) (wholes, still []api.Record) {
	type call struct{ source, number int }
	var ended []call
	for _, p := range open {
		c := call{p.Source, p.Call}
		var parts []api.Record
		late := false
		for _, q := range open {
			if q.Source == p.Source && q.Call == p.Call {
				parts = append(parts, q)
				late = late || q.Start >= before
			}
		}
		if late {
			still = append(still, p)
		} else if !slices.Contains(ended, c) {
			ended = append(ended, c)
			wholes = append(wholes, modelEnd(parts)...)
		}
	}
	return wholes, still
}

// modelEnd ends one call.
func modelEnd(parts []api.Record) []api.Record {
	chain := firstParts(parts, parts[0])
	for ; len(chain) > 0; chain = chain[:len(chain)-1] {
		chosen, others := at(parts, chain)
		if w, ok := modelWhole(chosen); ok {
			return append([]api.Record{w}, singles(others)...)
		}
	}
	return singles(parts)
}

// singles returns parts as records of their own.
func singles(parts []api.Record) []api.Record {
	var list []api.Record
	for _, p := range parts {
		p.Call, p.Part, p.Last = 0, 0, false
		list = append(list, p)
	}
	return list
}

// isOpenList reports whether a list is an open list: the definition, word by word.
func isOpenList(open []api.Record) bool {
	for i, p := range open {
		if validate.Check(p) != api.OK || p.Part == 0 || i > 0 && behind(open[i-1], p) {
			return false
		}
		chosen, _ := at(open, candidates(open, p))
		if _, ok := modelComplete(chosen); ok {
			return false
		}
	}
	return true
}

// part is a part of the call 7 of source 1.
func part(serial, number, units int, last bool) api.Record {
	return api.Record{Source: 1, Serial: serial, Kind: api.KindVoice, A: "1", B: "2", Units: units, Call: 7, Part: number, Last: last}
}

// somePart returns one of the parts of few calls, which mostly fit together.
func somePart(rnd *rand.Rand, serial int) api.Record {
	p := part(serial, 1+rnd.Intn(4), rnd.Intn(100), false)
	p.Source, p.Call = 1+rnd.Intn(2), 6+rnd.Intn(2)
	p.Last = rnd.Intn(2*5) < 2*p.Part-1
	p.Start = rnd.Intn(10)
	switch rnd.Intn(40) {
	case 0:
		p.A = "3"
	case 1:
		p.B = "3"
	case 2:
		p.Trunk = 3
	case 3:
		p.Trunk, p.Inbound = 3, true
	case 4:
		p.Kind = api.KindData
	case 5:
		p.Units = api.MaxCall - rnd.Intn(100)
	case 6:
		p.Start = api.Forever - 150
	}
	return p
}

// someList returns a list of valid records, most of them parts.
func someList(rnd *rand.Rand, most int) []api.Record {
	var list []api.Record
	for i := range rnd.Intn(most + 1) {
		p := somePart(rnd, i+1)
		if rnd.Intn(12) == 0 {
			p.Call, p.Part, p.Last = 0, 0, false
		}
		list = append(list, p)
	}
	return list
}

// spare returns a copy of a list with spare capacity, whose elements say whether they have been changed.
func spare(list []api.Record) []api.Record {
	mark := api.Record{Source: -7}
	return append(slices.Clone(list), mark, mark, mark)[:len(list)]
}

// unchanged reports whether a list that spare has returned is as it was, with its spare capacity.
func unchanged(list, original []api.Record) bool {
	return slices.Equal(list, original) && slices.Equal(list[len(list):len(list)+3], spare(nil)[:3])
}

// added returns the sums of the units of two lists, by kinds.
func added(a, b []api.Record) [api.Kinds]int {
	x, y := Units(a), Units(b)
	for kind := range x {
		x[kind] += y[kind]
	}
	return x
}
