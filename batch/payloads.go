package batch

import (
	"billing/api"
	"billing/codec"
	"billing/frame"
	"billing/packed"
	"billing/tagged"
	"billing/textual"
)

// Numbers of the header and of the trailer.
const (
	headNumbers  = 4
	totalNumbers = api.Kinds // one for each kind, and the number of records
)

// writeHead returns the payload of the first frame.
func writeHead(h api.Head) []byte {
	return putNumbers(h.Source, h.Number, h.Format, h.Count)
}

// readHead returns the header of a file and the bytes behind its frame.
func readHead(data []byte) (api.Head, []byte, api.Errno) {
	payload, rest, err := frame.Unwrap(data)
	if err != api.OK {
		return api.Head{}, nil, err
	}
	n, err := getNumbers(payload, headNumbers)
	if err != api.OK {
		return api.Head{}, nil, err
	}
	h := api.Head{Source: n[0], Number: n[1], Format: n[2], Count: n[3]}
	if err := checkHead(h); err != api.OK {
		return api.Head{}, nil, err
	}
	return h, rest, api.OK
}

// writeRecords returns the payload of the second frame of a valid batch.
func writeRecords(b api.Batch) []byte {
	switch b.Format {
	case api.FormatText:
		return writeList(b.Records, textual.Encode, "\n")
	case api.FormatTagged:
		return writeList(b.Records, tagged.Encode, "")
	}
	return writeList(b.Records, packed.Encode, "")
}

// writeList returns valid records in one of the formats, each one with an end behind it.
func writeList[T string | []byte](list []api.Record, encode func(r api.Record) (T, api.Errno), end string) []byte {
	var b []byte
	for _, r := range list {
		one, _ := encode(r)
		b = append(b, one...)
		b = append(b, end...)
	}
	return b
}

// readRecords returns the records of the frame at the beginning of data, the rejects of those that cannot be decoded, and the bytes behind the frame.
func readRecords(data []byte, format int) ([]api.Record, []api.Reject, []byte, api.Errno) {
	payload, rest, err := frame.Unwrap(data)
	if err != api.OK {
		return nil, nil, nil, err
	}
	list, rejects, err := readList(payload, format)
	if err != api.OK {
		return nil, nil, nil, err
	}
	return list, rejects, rest, api.OK
}

// readList decodes the records of a payload.
func readList(payload []byte, format int) ([]api.Record, []api.Reject, api.Errno) {
	switch format {
	case api.FormatText:
		return textual.All(string(payload))
	case api.FormatTagged:
		return tagged.All(payload)
	}
	return packed.All(payload)
}

// writeTotals returns the payload of the third frame.
func writeTotals(totals api.Totals) []byte {
	n := append([]int{totals.Count}, totals.Units[api.KindVoice:]...)
	return putNumbers(n...)
}

// readTotals returns the control totals of the last frame of a file.
func readTotals(data []byte) (api.Totals, api.Errno) {
	payload, rest, err := frame.Unwrap(data)
	if err != api.OK {
		return api.Totals{}, err
	}
	if len(rest) > 0 {
		return api.Totals{}, api.ErrTrailing
	}
	n, err := getNumbers(payload, totalNumbers)
	if err != api.OK {
		return api.Totals{}, err
	}
	totals := api.Totals{Count: n[0]}
	copy(totals.Units[api.KindVoice:], n[1:])
	return totals, api.OK
}

// putNumbers returns the bytes of numbers.
func putNumbers(list ...int) []byte {
	var b []byte
	for _, n := range list {
		b = codec.PutNumber(b, n)
	}
	return b
}

// getNumbers returns the numbers of which a payload consists.
func getNumbers(payload []byte, count int) ([]int, api.Errno) {
	var list []int
	rest := payload
	for range count {
		n, behind, err := codec.Number(rest)
		if err != api.OK {
			return nil, err
		}
		list = append(list, n)
		rest = behind
	}
	if len(rest) > 0 {
		return nil, api.ErrTrailing
	}
	return list, api.OK
}
