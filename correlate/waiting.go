package correlate

import (
	"cmp"
	"maps"
	"slices"

	"billing/api"
)

// slot is the place of the parts of a call that have the same number.
type slot struct{ source, call, part int }

// waiting contains parts by their slots, those of one slot in the order of their arrival. No slot is empty.
type waiting map[slot][]api.Record

// collect returns the parts of a list by their slots.
func collect(list []api.Record) waiting {
	w := waiting{}
	for _, p := range list {
		w.add(p)
	}
	return w
}

// slotOf returns the slot of a part.
func slotOf(p api.Record) slot {
	return slot{p.Source, p.Call, p.Part}
}

// add adds a part behind those of its slot.
func (w waiting) add(p api.Record) {
	s := slotOf(p)
	w[s] = append(w[s], p)
}

// firsts returns the first part of a call with Part 1, with Part 2 and so on, as long as there is one.
func (w waiting) firsts(source, call int) []api.Record {
	var list []api.Record
	for {
		parts := w[slot{source, call, len(list) + 1}]
		if len(parts) == 0 {
			return list
		}
		list = append(list, parts[0])
	}
}

// take removes parts each of which is the first one of its slot.
func (w waiting) take(list []api.Record) {
	for _, p := range list {
		s := slotOf(p)
		w[s] = w[s][1:]
		if len(w[s]) == 0 {
			delete(w, s)
		}
	}
}

// join removes the candidates of a call as long as they are complete, and returns their wholes.
func (w waiting) join(source, call int) []api.Record {
	var wholes []api.Record
	for {
		firsts := w.firsts(source, call)
		last := slices.IndexFunc(firsts, func(p api.Record) bool { return p.Last })
		candidates := firsts[:last+1] // none if no part is the last one: they would not be complete either
		r, ok := Complete(candidates)
		if !ok {
			return wholes
		}
		w.take(candidates)
		wholes = append(wholes, r)
	}
}

// list returns all parts in the order of an open list.
func (w waiting) list() []api.Record {
	var all []api.Record
	for _, s := range slices.SortedFunc(maps.Keys(w), compareSlots) {
		all = append(all, w[s]...)
	}
	return all
}

// compareSlots compares slots by source, call and part.
func compareSlots(a, b slot) int {
	return cmp.Or(cmp.Compare(a.source, b.source), cmp.Compare(a.call, b.call), cmp.Compare(a.part, b.part))
}
