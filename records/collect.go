package records

import "billing/api"

// Collect decodes the parts of a list, whatever their format is. It returns the records, and a reject for each part that cannot be decoded, with its position as Index.
func Collect[T any](parts []T, decode func(part T) (api.Record, api.Errno)) ([]api.Record, []api.Reject) {
	var list []api.Record
	var rejects []api.Reject
	for i := range len(parts) {
		r, err := decode(parts[i])
		if err != api.OK {
			rejects = append(rejects, api.Reject{Index: i, Err: err})
			continue
		}
		list = append(list, r)
	}
	return list, rejects
}

// Divide checks the records of a list, each of them once and in their order. It returns those without an error, and a reject for each of the others, with its source, its serial number, and its position as Index.
func Divide(list []api.Record, check func(r api.Record) api.Errno) ([]api.Record, []api.Reject) {
	passed, rejects := Collect(list, func(r api.Record) (api.Record, api.Errno) { return r, check(r) })
	for i := range rejects {
		r := list[rejects[i].Index]
		rejects[i].Source, rejects[i].Serial = r.Source, r.Serial
	}
	return passed, rejects
}
