package batch

import (
	"bytes"
	"math"
	"math/rand"
	"slices"
	"strings"
	"testing"

	"billing/api"
	"billing/codec"
	"billing/frame"
	"billing/packed"
	"billing/tagged"
	"billing/textual"
)

// bad is a sequence of bytes at whose beginning there is no number: its last byte is 0.
var bad = []byte{128, 0}

// P12.4: the headers at the limits, of files of which nothing else is there.
func TestHead(t *testing.T) {
	for _, h := range goodHeads() {
		data := file(numbers(h.Source, h.Number, h.Format, h.Count))
		for _, behind := range [][]byte{nil, {0}, {5, 0, 0, 0, 0, 0}, bad, file(nil, nil)} {
			if got, err := Head(slices.Concat(data, behind)); got != h || err != api.OK {
				t.Errorf("Head of %+v and %x = %+v, %v", h, behind, got, err)
			}
		}
	}
}

// badFrames are bytes that do not begin with a frame.
func badFrames() map[string]api.Errno {
	whole := file([]byte{2, 2, 2, 0})
	wrong := slices.Clone(whole)
	wrong[1]++
	return map[string]api.Errno{
		"": api.ErrTruncated, string(whole[:8]): api.ErrTruncated, string(whole[:1]): api.ErrTruncated, "\x80": api.ErrTruncated,
		string(bad): api.ErrSyntax, "\x01": api.ErrSyntax, string(bad) + string(whole): api.ErrSyntax,
		string(numbers(api.MaxFrame + 1)): api.ErrTooLong, string(numbers(math.MaxInt)): api.ErrTooLong,
		string(wrong): api.ErrChecksum, string(wrong) + "\x00": api.ErrChecksum,
	}
}

// badHeaders are payloads of the first frame with an error.
func badHeaders() map[string]api.Errno {
	list := map[string]api.Errno{
		string(numbers(1, 1, 1)): api.ErrTruncated, "": api.ErrTruncated, "\x02\x02\x02\x80": api.ErrTruncated, "\x80": api.ErrTruncated,
		string(append(numbers(1, 1, 1), bad...)): api.ErrSyntax, string(append(bad, numbers(1, 1, 1)...)): api.ErrSyntax, string(append(numbers(1), 128, 0, 128)): api.ErrSyntax,
		string(numbers(1, 1, 1, 0, 0)): api.ErrTrailing, string(append(numbers(1, 1, 1, 0), 128)): api.ErrTrailing,
		// the numbers come before what follows them, and both before their values
		string(append(numbers(0, 0, 0), bad...)): api.ErrSyntax, string(numbers(0, 0, 0)): api.ErrTruncated, string(numbers(0, 0, 0, -1, 0)): api.ErrTrailing, string(numbers(1, 1, 1, api.MaxRecords+1, 1)): api.ErrTrailing,
		// a number of records that no batch has
		string(numbers(1, 1, 1, -1)): api.ErrTooLong, string(numbers(1, 1, 1, math.MinInt)): api.ErrTooLong, string(numbers(1, 1, 1, math.MaxInt)): api.ErrTooLong, string(numbers(1, 1, 4, -1)): api.ErrKind,
	}
	for h, err := range badHeads() {
		list[string(numbers(h.Source, h.Number, h.Format, h.Count))] = err
	}
	return list
}

// P12.4, P12.5: the errors of Head, which Read has, too, whatever follows the frame.
func TestHeadErrors(t *testing.T) {
	files := badFrames()
	for payload, err := range badHeaders() {
		files[string(file([]byte(payload)))] = err
		files[string(file([]byte(payload)))+"\x01"] = err
		files[string(file([]byte(payload), nil, make([]byte, 5)))] = err
	}
	for data, want := range files {
		if h, err := Head([]byte(data)); h != (api.Head{}) || err != want {
			t.Errorf("Head(%x) = %+v, %v, not %v", data, h, err, want)
		}
		refused(t, []byte(data), want)
	}
}

// refused tests that Read returns an error for a file, and nothing beside it (R3).
func refused(t *testing.T, data []byte, want api.Errno) {
	t.Helper()
	if b, rejects, err := Read(data); !same(b, api.Batch{}) || len(rejects) != 0 || err != want {
		t.Errorf("Read(%.80x) = %+v, %v, %v, not %v", data, b, rejects, err, want)
	}
}

// P12.5: the errors of the frames behind the header, in their order.
func TestReadFrames(t *testing.T) {
	for format := 1; format <= 3; format++ {
		b := api.Batch{Source: 1, Number: 1, Format: format, Records: calls(1)}
		header, list, trailer := numbers(1, 1, format, 1), modelRecords(b), modelTrailer(b.Records)
		torn := list[:len(list)-1] // ErrSyntax for a text, otherwise ErrTruncated
		wantTorn := []api.Errno{api.ErrSyntax, api.ErrTruncated, api.ErrTruncated}[format-1]
		for s, err := range badFrames() {
			refused(t, append(file(header), s...), err)
			refused(t, append(file(header, list), s...), err)
			refused(t, append(file(header, torn), s...), wantTorn)
		}
		refused(t, file(header, torn, trailer), wantTorn)
		refused(t, append(file(header, list, trailer), 0), api.ErrTrailing)
		refused(t, file(header, list, trailer, nil), api.ErrTrailing)
		refused(t, append(file(header, list, bad), 0), api.ErrTrailing)
		refused(t, append(file(header, nil, trailer), 0), api.ErrTrailing)
		whole := modelFile(b)
		for i := range whole {
			refused(t, whole[:i], api.ErrTruncated)
		}
	}
}

// P12.5: each of the errors of All, in each of the formats.
func TestReadRecords(t *testing.T) {
	line, _ := textual.Encode(call)
	elements, _ := tagged.Encode(call)
	decimals, _ := packed.Encode(call)
	for _, x := range []struct {
		format int
		list   string
		want   api.Errno
	}{
		{api.FormatText, line, api.ErrSyntax}, {api.FormatText, line + "\n" + "x", api.ErrSyntax}, {api.FormatText, strings.Repeat(line+"\n", api.MaxRecords+1), api.ErrTooLong}, {api.FormatText, strings.Repeat("\n", api.MaxFrame), api.ErrTooLong},
		{api.FormatTagged, "\x00", api.ErrTruncated}, {api.FormatTagged, string(elements) + "\x00\x01", api.ErrTruncated}, {api.FormatTagged, strings.Repeat(string(elements), api.MaxRecords+1), api.ErrTooLong}, {api.FormatTagged, string(make([]byte, api.MaxFrame)), api.ErrTooLong},
		{api.FormatPacked, string(decimals) + "\x00", api.ErrTruncated}, {api.FormatPacked, string(make([]byte, api.MaxFrame)), api.ErrTruncated}, {api.FormatPacked, strings.Repeat(string(decimals), api.MaxRecords+1), api.ErrTooLong},
		// records of another format
		{api.FormatText, string(elements), api.ErrSyntax}, {api.FormatPacked, line + "\n", api.ErrTruncated}, {api.FormatTagged, line + "\n", api.ErrTruncated},
	} {
		refused(t, file(numbers(1, 1, x.format, 1), []byte(x.list), bad), x.want)
	}
}

// P12.5: the errors of the trailer, in their order.
func TestReadTrailer(t *testing.T) {
	for format := 1; format <= 3; format++ {
		b := api.Batch{Source: 1, Number: 1, Format: format, Records: []api.Record{call, {Source: 1, Serial: 8, Kind: api.KindText, A: "1", B: "2", Units: 3}, {Source: 1, Serial: 8, Kind: api.KindData, A: "1", Units: 5}, {Source: 1, Serial: 8, Kind: api.KindContent, A: "1", Units: 7}}}
		list := modelRecords(b)
		right := []int{4, 90, 3, 5, 7}
		for s, err := range map[string]api.Errno{
			"": api.ErrTruncated, string(numbers(right[:4]...)): api.ErrTruncated, string(numbers(0, 0, 0)): api.ErrTruncated, string(append(numbers(right[:4]...), 128)): api.ErrTruncated,
			string(append(numbers(right[:4]...), bad...)): api.ErrSyntax, string(bad): api.ErrSyntax, string(append(numbers(0), 128, 0, 128)): api.ErrSyntax,
			string(numbers(4, 90, 3, 5, 7, 0)): api.ErrTrailing, string(numbers(0, 0, 0, 0, 0, 0)): api.ErrTrailing, string(append(numbers(right...), 128)): api.ErrTrailing,
		} {
			refused(t, file(numbers(1, 1, format, 4), list, []byte(s)), err)
			refused(t, file(numbers(1, 1, format, 0), list, []byte(s)), err)
		}
		for i := range right {
			for _, n := range []int{right[i] - 1, right[i] + 1, 0, -right[i], math.MinInt, math.MaxInt} {
				wrong := slices.Clone(right)
				wrong[i] = n
				refused(t, file(numbers(1, 1, format, 4), list, numbers(wrong...)), api.ErrTotals)
			}
		}
		for _, count := range []int{0, 3, 5, api.MaxRecords} {
			refused(t, file(numbers(1, 1, format, count), list, numbers(right...)), api.ErrTotals)
		}
		refused(t, file(numbers(1, 1, format, 5), list, numbers(5, 90, 3, 5, 7)), api.ErrTotals) // they agree, but not with the records
		if got, rejects, err := Read(file(numbers(1, 1, format, 4), list, numbers(right...))); !same(got, b) || len(rejects) != 0 || err != api.OK {
			t.Error(got, rejects, err)
		}
	}
}

// P12.5: a record of another source, which comes after the totals.
func TestReadSource(t *testing.T) {
	for format := 1; format <= 3; format++ {
		for _, list := range [][]api.Record{{from(2)}, {call, from(99)}, {from(2), call, call}} {
			b := api.Batch{Source: 1, Number: 1, Format: format, Records: list}
			refused(t, modelFile(b), api.ErrInvalid)
			refused(t, file(numbers(1, 1, format, len(list)), modelRecords(b), modelTrailer(nil)), api.ErrTotals)
			refused(t, file(numbers(1, 1, format, 9), modelRecords(b), modelTrailer(list)), api.ErrTotals)
		}
	}
}

// spoiled returns the bytes of a list of records in which those at some positions cannot be decoded, and these positions.
func spoiled(rnd *rand.Rand, b api.Batch) ([]byte, []api.Record, []api.Reject) {
	var data []byte
	var left []api.Record
	var rejects []api.Reject
	for i, r := range b.Records {
		one := modelRecords(api.Batch{Format: b.Format, Records: []api.Record{r}})
		if rnd.Intn(3) > 0 {
			left = append(left, r)
		} else {
			switch b.Format {
			case api.FormatText:
				one[0] = 'x'
				rejects = append(rejects, api.Reject{Index: i, Err: api.ErrSyntax})
			case api.FormatTagged:
				one[2] = 0
				rejects = append(rejects, api.Reject{Index: i, Err: api.ErrRange})
			default:
				one[44]++
				rejects = append(rejects, api.Reject{Index: i, Err: api.ErrChecksum})
			}
		}
		data = append(data, one...)
	}
	return data, left, rejects
}

// P12.5: records that cannot be decoded are rejected, and count nowhere. P12.8: what Read returns is valid.
func TestReadRejects(t *testing.T) {
	rnd := rand.New(rand.NewSource(125))
	for range 2000 {
		b := randomBatch(rnd, 8)
		data, left, rejects := spoiled(rnd, b)
		want := api.Batch{Source: b.Source, Number: b.Number, Format: b.Format, Records: left}
		header := numbers(b.Source, b.Number, b.Format, len(left))
		got, refusedOnes, err := Read(file(header, data, modelTrailer(left)))
		if !same(got, want) || !slices.Equal(refusedOnes, rejects) || err != api.OK {
			t.Fatalf("Read = %+v, %v, %v, not %+v, %v", got, refusedOnes, err, want, rejects)
		}
		if err := Check(got); err != api.OK {
			t.Fatal("Check", err)
		}
		if len(rejects) == 0 {
			continue
		}
		// The totals of all records are not those of the remaining ones.
		all := numbers(b.Source, b.Number, b.Format, len(b.Records))
		refused(t, file(all, data, modelTrailer(b.Records)), api.ErrTotals)
		refused(t, file(all, data, modelTrailer(left)), api.ErrTotals)
		refused(t, file(header, data, modelTrailer(b.Records)), api.ErrTotals)
	}
	for format, data := range map[int]string{api.FormatText: strings.Repeat("\n", api.MaxRecords), api.FormatTagged: string(make([]byte, 2*api.MaxRecords)), api.FormatPacked: string(make([]byte, 45*api.MaxRecords))} {
		b, rejects, err := Read(file(numbers(1, 1, format, 0), []byte(data), make([]byte, 5)))
		if !same(b, api.Batch{Source: 1, Number: 1, Format: format}) || len(rejects) != api.MaxRecords || err != api.OK {
			t.Error(format, b, len(rejects), err)
		}
	}
}

// modelRead reads a file, frame by frame, as the chapter says it.
func modelRead(data []byte) (api.Batch, []api.Reject, api.Errno) {
	none := api.Batch{}
	h, err := Head(data)
	if err != api.OK {
		return none, nil, err
	}
	_, data, _ = frame.Unwrap(data)
	payload, data, err := frame.Unwrap(data)
	if err != api.OK {
		return none, nil, err
	}
	var list []api.Record
	var rejects []api.Reject
	if h.Format == 1 {
		list, rejects, err = textual.All(string(payload))
	}
	if h.Format == 2 {
		list, rejects, err = tagged.All(payload)
	}
	if h.Format == 3 {
		list, rejects, err = packed.All(payload)
	}
	if err != api.OK {
		return none, nil, err
	}
	payload, data, err = frame.Unwrap(data)
	if err != api.OK {
		return none, nil, err
	}
	if len(data) != 0 {
		return none, nil, api.ErrTrailing
	}
	for rest, i := payload, 0; i < 5; i++ {
		if _, rest, err = codec.Number(rest); err != api.OK {
			return none, nil, err
		}
		if i == 4 && len(rest) != 0 {
			return none, nil, api.ErrTrailing
		}
	}
	if h.Count != len(list) || !bytes.Equal(payload, modelTrailer(list)) {
		return none, nil, api.ErrTotals
	}
	if slices.ContainsFunc(list, func(r api.Record) bool { return r.Source != h.Source }) {
		return none, nil, api.ErrInvalid
	}
	return api.Batch{Source: h.Source, Number: h.Number, Format: h.Format, Records: list}, rejects, api.OK
}

// P12.5, P12.8: Read of files with changed payloads against the model; what it returns is valid.
func TestReadAgainstModel(t *testing.T) {
	rnd := rand.New(rand.NewSource(1250))
	found := map[api.Errno]int{}
	for range 30000 {
		b := randomBatch(rnd, 2)
		payloads := [][]byte{numbers(b.Source, b.Number, b.Format, len(b.Records)), modelRecords(b), modelTrailer(b.Records)}
		for range rnd.Intn(3) {
			i := rnd.Intn(3)
			if n := len(payloads[i]); n > 0 {
				j := rnd.Intn(n)
				payloads[i][j] = []byte{payloads[i][j] + 2, byte(rnd.Intn(256)), 0, '1'}[rnd.Intn(4)]
				payloads[i] = append(payloads[i], 0)[:n+rnd.Intn(30)/29]
			}
		}
		data := file(payloads...)
		if rnd.Intn(20) == 0 {
			data[rnd.Intn(len(data))] ^= 1
		}
		got, rejects, err := Read(data)
		want, refusedOnes, e := modelRead(data)
		if !same(got, want) || !slices.Equal(rejects, refusedOnes) || err != e {
			t.Fatalf("Read(%x) = %+v, %v, %v, not %+v, %v, %v", data, got, rejects, err, want, refusedOnes, e)
		}
		found[err]++
		if err == api.OK && Check(got) != api.OK {
			t.Fatalf("Check(%+v) = %v", got, Check(got))
		}
	}
	for _, err := range []api.Errno{api.OK, api.ErrSyntax, api.ErrTruncated, api.ErrTrailing, api.ErrChecksum, api.ErrRange, api.ErrKind, api.ErrInvalid, api.ErrTotals} {
		if found[err] < 20 {
			t.Error("error", err, "only", found[err])
		}
	}
}

// P12.7: whichever byte of a checksum or of a payload is replaced, and by whichever one.
func TestDamage(t *testing.T) {
	for format := 1; format <= 3; format++ {
		b := api.Batch{Source: 1, Number: 1, Format: format, Records: calls(2)}
		parts := [][]byte{numbers(1, 1, format, 2), modelRecords(b), modelTrailer(b.Records)}
		data := modelFile(b)
		end := 0
		for _, part := range parts {
			from := end + len(numbers(len(part))) // behind the length
			end = from + 4 + len(part)
			for i := from; i < end; i++ {
				for range 255 {
					data[i]++
					refused(t, data, api.ErrChecksum)
				}
				data[i]++ // as it was
			}
		}
		if end != len(data) {
			t.Error(end, len(data))
		}
	}
}
