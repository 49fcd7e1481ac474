package records

import "billing/api"

// Collect decodes the parts of a list, whatever their format is. It returns the records, and a reject for each part that cannot be decoded, with its position as Index.
func Collect[T any](parts []T, decode func(part T) (api.Record, api.Errno)) ([]api.Record, []api.Reject) {
	var list []api.Record
	var rejects []api.Reject
	for i, part := range parts {
		r, err := decode(part)
		if err != api.OK {
			rejects = append(rejects, api.Reject{Index: i, Err: err})
			continue
		}
		list = append(list, r)
	}
	return list, rejects
}
