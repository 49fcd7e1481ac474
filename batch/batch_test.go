package batch

import (
	"bytes"
	"math"
	"math/rand"
	"slices"
	"strings"
	"testing"

	"billing/api"
	"billing/codec"
	"billing/frame"
	"billing/packed"
	"billing/records"
	"billing/samples"
	"billing/tagged"
	"billing/textual"
)

// call is a valid voice record.
var call = api.Record{Source: 1, Serial: 7, Kind: api.KindVoice, A: "4915", B: "4930", Start: 60, Units: 90}

// from returns a record of another source.
func from(source int) api.Record {
	r := call
	r.Source = source
	return r
}

// calls returns n valid records, which differ by their serial numbers.
func calls(n int) []api.Record {
	list := make([]api.Record, n)
	for i := range list {
		list[i] = call
		list[i].Serial = i + 1
	}
	return list
}

// randomRecord returns a valid record of a source.
func randomRecord(rnd *rand.Rand, source int) api.Record {
	for {
		r := samples.Record(rnd.Intn)
		r.Source = source
		if records.Check(r) == api.OK {
			return r
		}
	}
}

// randomBatch returns a valid batch of up to n records.
func randomBatch(rnd *rand.Rand, n int) api.Batch {
	b := api.Batch{Source: 1 + rnd.Intn(99), Number: 1 + rnd.Intn(1+rnd.Intn(999999999)), Format: 1 + rnd.Intn(3)}
	for range rnd.Intn(n + 1) {
		b.Records = append(b.Records, randomRecord(rnd, b.Source))
	}
	return b
}

// same reports whether two batches are the same.
func same(a, b api.Batch) bool {
	return a.Source == b.Source && a.Number == b.Number && a.Format == b.Format && slices.Equal(a.Records, b.Records)
}

// numbers returns the bytes of numbers.
func numbers(list ...int) []byte {
	var b []byte
	for _, n := range list {
		b = slices.Concat(b, codec.PutNumber(nil, n))
	}
	return b
}

// modelRecords returns the payload with the records of a valid batch.
func modelRecords(b api.Batch) []byte {
	var parts [][]byte
	for _, r := range b.Records {
		line, _ := textual.Encode(r)
		elements, _ := tagged.Encode(r)
		decimals, _ := packed.Encode(r)
		parts = append(parts, map[int][]byte{api.FormatText: []byte(line + "\n"), api.FormatTagged: elements, api.FormatPacked: decimals}[b.Format])
	}
	return bytes.Join(parts, nil)
}

// modelTotals returns control totals, kind by kind.
func modelTotals(list []api.Record) api.Totals {
	t := api.Totals{Count: len(list)}
	for kind := 1; kind <= 4; kind++ {
		for _, r := range list {
			if r.Kind == kind && r.Units >= 0 && r.Units <= 1<<40 {
				t.Units[kind] += r.Units
			}
		}
	}
	return t
}

// modelTrailer returns the payload with the control totals of records.
func modelTrailer(list []api.Record) []byte {
	t := modelTotals(list)
	return numbers(t.Count, t.Units[1], t.Units[2], t.Units[3], t.Units[4])
}

// file returns the frames of payloads, one after the other.
func file(payloads ...[]byte) []byte {
	var b []byte
	for _, payload := range payloads {
		one, err := frame.Wrap(payload)
		if err != api.OK {
			panic(err)
		}
		b = append(b, one...)
	}
	return b
}

// modelFile returns the file of a valid batch.
func modelFile(b api.Batch) []byte {
	return file(numbers(b.Source, b.Number, b.Format, len(b.Records)), modelRecords(b), modelTrailer(b.Records))
}

// P12.1: the example, and records whose units do not count.
func TestTotals(t *testing.T) {
	for _, x := range []struct {
		list []api.Record
		want api.Totals
	}{
		{nil, api.Totals{}}, {[]api.Record{}, api.Totals{}},
		{[]api.Record{{Kind: api.KindVoice, Units: 90}, {Kind: api.KindText, Units: 1}}, api.Totals{Count: 2, Units: [api.Kinds]int{0, 90, 1, 0, 0}}},
		{[]api.Record{{Kind: api.KindData, Units: api.MaxUnits}, {Kind: api.KindContent, Units: 3}, {Kind: api.KindData, Units: api.MaxUnits}, {Kind: api.KindContent}}, api.Totals{Count: 4, Units: [api.Kinds]int{0, 0, 0, 2 * api.MaxUnits, 3}}},
		{[]api.Record{{Units: 5}, {Kind: -1, Units: 5}, {Kind: api.Kinds, Units: 5}, {Kind: math.MinInt, Units: 5}, {Kind: math.MaxInt, Units: 5}}, api.Totals{Count: 5}},
		{[]api.Record{{Kind: 1, Units: -1}, {Kind: 2, Units: api.MaxUnits + 1}, {Kind: 3, Units: math.MinInt}, {Kind: 4, Units: math.MaxInt}, {Kind: 4, Units: 8}}, api.Totals{Count: 5, Units: [api.Kinds]int{4: 8}}},
		// voice counts beyond MaxCall, too: its record is not valid, but has units
		{[]api.Record{{Kind: api.KindVoice, Units: api.MaxUnits}}, api.Totals{Count: 1, Units: [api.Kinds]int{1: api.MaxUnits}}},
	} {
		if got := Totals(x.list); got != x.want {
			t.Errorf("Totals(%+v) = %+v, not %+v", x.list, got, x.want)
		}
	}
}

// P12.1, P12.8: totals against the model, and those of two lists, one after the other.
func TestTotalsOfTwoLists(t *testing.T) {
	rnd := rand.New(rand.NewSource(121))
	for range 2000 {
		var list []api.Record
		for range rnd.Intn(20) {
			r := samples.Record(rnd.Intn)
			if rnd.Intn(10) == 0 {
				r.Kind, r.Units = int(rnd.Uint64()), int(rnd.Uint64())
			}
			list = append(list, r)
		}
		whole := Totals(list)
		if whole != modelTotals(list) {
			t.Fatalf("Totals(%+v) = %+v", list, whole)
		}
		i := rnd.Intn(len(list) + 1)
		a, b := Totals(list[:i]), Totals(list[i:])
		a.Count += b.Count
		for kind := range a.Units {
			a.Units[kind] += b.Units[kind]
		}
		if a != whole {
			t.Fatalf("the totals of %+v are not the sums of those before and from %d on", list, i)
		}
	}
}

// badHeads are headers with an error.
func badHeads() map[api.Head]api.Errno {
	bad := map[api.Head]api.Errno{
		{Source: 0, Number: 0, Format: 0, Count: api.MaxRecords + 1}:   api.ErrRange,
		{Source: 1, Number: 0, Format: 9, Count: 0}:                    api.ErrRange,
		{Source: 100, Number: 1, Format: 1, Count: api.MaxRecords + 1}: api.ErrRange,
		{Source: 1, Number: 1, Format: 4, Count: api.MaxRecords + 1}:   api.ErrKind,
	}
	for _, n := range []int{0, -1, math.MinInt, math.MaxInt} {
		bad[api.Head{Source: n, Number: 1, Format: 1}] = api.ErrRange
		bad[api.Head{Source: 1, Number: n, Format: 1}] = api.ErrRange
		bad[api.Head{Source: 1, Number: 1, Format: n}] = api.ErrKind
	}
	bad[api.Head{Source: api.MaxSource + 1, Number: 1, Format: 1}] = api.ErrRange
	bad[api.Head{Source: 1, Number: api.MaxSerial + 1, Format: 1}] = api.ErrRange
	bad[api.Head{Source: 1, Number: 1, Format: api.Formats}] = api.ErrKind
	bad[api.Head{Source: 1, Number: 1, Format: 1, Count: api.MaxRecords + 1}] = api.ErrTooLong
	return bad
}

// goodHeads are the headers at the limits.
func goodHeads() []api.Head {
	return []api.Head{{Source: 1, Number: 1, Format: 1}, {Source: api.MaxSource, Number: 1, Format: 2}, {Source: 1, Number: api.MaxSerial, Format: 3}, {Source: 1, Number: 1, Format: 1, Count: api.MaxRecords}}
}

// batchOf returns a batch with this header, of records that are valid if it is.
func batchOf(h api.Head) api.Batch {
	b := api.Batch{Source: h.Source, Number: h.Number, Format: h.Format, Records: calls(h.Count)}
	for i := range b.Records {
		b.Records[i].Source = h.Source
	}
	return b
}

// P12.2, P12.3: batches at and beyond the limits; Write returns the error of Check.
func TestCheckHead(t *testing.T) {
	for h, want := range badHeads() {
		b := batchOf(h)
		if err := Check(b); err != want {
			t.Errorf("Check of %+v = %v, not %v", h, err, want)
		}
		if data, err := Write(b); len(data) != 0 || err != want {
			t.Errorf("Write of %+v = %.20x, %v, not %v", h, data, err, want)
		}
	}
	for _, h := range goodHeads() {
		b := batchOf(h)
		if err := Check(b); err != api.OK {
			t.Errorf("Check of %+v = %v", h, err)
		}
		if data, err := Write(b); !bytes.Equal(data, modelFile(b)) || err != api.OK {
			t.Errorf("Write of %+v = %.20x, %v", h, data, err)
		}
	}
}

// P12.2, P12.3: the error of the first record that has one, of which its source comes last.
func TestCheckRecords(t *testing.T) {
	with := func(change func(r *api.Record)) api.Record {
		r := call
		change(&r)
		return r
	}
	kind := with(func(r *api.Record) { r.Kind = 5 })
	part := with(func(r *api.Record) { r.Part = 1 })
	trunk := with(func(r *api.Record) { r.Trunk = 1000 })
	otherTrunk := with(func(r *api.Record) { r.Source, r.Trunk = 2, 1000 })
	for _, x := range []struct {
		list []api.Record
		want api.Errno
	}{
		{nil, api.OK}, {[]api.Record{call, call}, api.OK}, // the same record twice is no fault here
		{[]api.Record{from(2)}, api.ErrInvalid}, {[]api.Record{call, call, from(99)}, api.ErrInvalid}, {[]api.Record{from(0)}, api.ErrRange}, {[]api.Record{from(100)}, api.ErrRange},
		{[]api.Record{kind}, api.ErrKind}, {[]api.Record{part}, api.ErrInvalid}, {[]api.Record{{}}, api.ErrRange},
		{[]api.Record{call, kind, trunk}, api.ErrKind}, {[]api.Record{trunk, call, kind}, api.ErrRange},
		{[]api.Record{otherTrunk}, api.ErrRange}, {[]api.Record{from(2), kind}, api.ErrInvalid}, {[]api.Record{kind, from(2)}, api.ErrKind}, {[]api.Record{call, otherTrunk, from(2)}, api.ErrRange},
	} {
		for format := 1; format <= 3; format++ {
			b := api.Batch{Source: 1, Number: 5, Format: format, Records: x.list}
			if err := Check(b); err != x.want {
				t.Errorf("Check(%+v) = %v, not %v", b, err, x.want)
			}
			if data, err := Write(b); err != x.want || err != api.OK && len(data) != 0 {
				t.Errorf("Write(%+v) = %.20x, %v, not %v", b, data, err, x.want)
			}
		}
	}
	if err := Check(api.Batch{Source: 5, Number: 1, Format: 1, Records: []api.Record{from(6)}}); err != api.ErrInvalid {
		t.Error(err)
	}
	long := append([]api.Record{{}}, calls(api.MaxRecords)...)
	if err := Check(api.Batch{Source: 1, Number: 1, Format: 1, Records: long}); err != api.ErrTooLong {
		t.Error(err)
	}
}

// P12.3: the bytes of files.
func TestWrite(t *testing.T) {
	empty := api.Batch{Source: 1, Number: 1, Format: api.FormatText}
	if data, err := Write(empty); len(data) != 24 || !bytes.Equal(data, file([]byte{2, 2, 2, 0}, nil, make([]byte, 5))) || err != api.OK {
		t.Errorf("%x, %v", data, err)
	}
	two := []api.Record{call, {Source: 1, Serial: 8, Kind: api.KindData, A: "4915", Units: 1024, Trunk: 5, Inbound: true}}
	trailer := []byte{4, 180, 1, 0, 128, 16, 0} // 2, 90, 0, 1024 and 0
	for format, payload := range map[int]string{
		api.FormatText:   "v 1 7 4915 4930 60 90\nd 1 8 4915 - 0 1024 in 5\n",
		api.FormatTagged: "\x00\x17\x01\x01\x01\x02\x01\x01\x03\x01\x07\x04\x02\x49\x15\x05\x02\x49\x30\x06\x01\x3c\x07\x01\x5a\x00\x17\x01\x01\x03\x02\x01\x01\x03\x01\x08\x04\x02\x49\x15\x07\x02\x04\x00\x0a\x01\x05\x0b\x01\x02",
		api.FormatPacked: "\x01\x00\x00\x00\x00\x07\x10\x44\x91\x50\x00\x00\x00\x00\x00\x44\x93\x00\x00\x00\x00\x00\x00\x00\x00\x00\x00\x00\x60\x00\x00\x00\x00\x00\x00\x90" + strings.Repeat("\x00", 8) + "\x04" +
			"\x01\x00\x00\x00\x00\x08\x32\x44\x91\x50" + strings.Repeat("\x00", 23) + "\x00\x10\x24" + strings.Repeat("\x00", 7) + "\x05\x99",
	} {
		b := api.Batch{Source: 1, Number: 300, Format: format, Records: two}
		want := file([]byte{2, 216, 4, byte(2 * format), 4}, []byte(payload), trailer)
		if data, err := Write(b); !bytes.Equal(data, want) || err != api.OK {
			t.Errorf("Write(%+v) = %x, %v, not %x", b, data, err, want)
		}
		if got, rejects, err := Read(want); !same(got, b) || len(rejects) != 0 || err != api.OK {
			t.Errorf("Read(%x) = %+v, %v, %v", want, got, rejects, err)
		}
	}
}

// P12.3, P12.6: Read and Head reverse Write, for all formats; the longest batches are among them.
func TestRoundTrip(t *testing.T) {
	rnd := rand.New(rand.NewSource(126))
	var list []api.Batch
	for range 1500 {
		list = append(list, randomBatch(rnd, 8))
	}
	list = append(list, api.Batch{Source: 99, Number: 999999999, Format: 3, Records: []api.Record{}})
	longest := api.Record{Source: 99, Serial: 999999999, Kind: api.KindData, A: strings.Repeat("9", 15), B: strings.Repeat("9", 15), Start: api.Forever - 1, Units: api.MaxUnits, Call: 999999999, Part: 99, Last: true, Trunk: 999, Inbound: true}
	for format := 1; format <= 3; format++ {
		list = append(list, api.Batch{Source: 99, Number: 999999999, Format: format, Records: slices.Repeat([]api.Record{longest}, api.MaxRecords)})
	}
	for _, b := range list {
		data, err := Write(b)
		if !bytes.Equal(data, modelFile(b)) || err != api.OK {
			t.Fatalf("Write(%+v) = %x, %v", b, data, err)
		}
		if got, rejects, err := Read(data); !same(got, b) || len(rejects) != 0 || err != api.OK {
			t.Fatalf("Read(%x) = %+v, %v, %v, not %+v", data, got, rejects, err, b)
		}
		if h, err := Head(data); h != (api.Head{Source: b.Source, Number: b.Number, Format: b.Format, Count: len(b.Records)}) || err != api.OK {
			t.Fatalf("Head(%x) = %+v, %v", data, h, err)
		}
	}
}

// P12.6: batches that differ in one thing have different files.
func TestDifferentFiles(t *testing.T) {
	rnd := rand.New(rand.NewSource(1260))
	files := map[string]api.Batch{}
	for range 300 {
		b := randomBatch(rnd, 3)
		variants := []api.Batch{b, b, b, b, b}
		variants[1].Format = 1 + b.Format%3
		variants[2].Number = 1 + b.Number%api.MaxSerial
		variants[3].Records = append(slices.Clone(b.Records), randomRecord(rnd, b.Source))
		variants[4].Records = slices.Clone(b.Records)
		slices.Reverse(variants[4].Records)
		for _, v := range variants {
			data, err := Write(v)
			other, found := files[string(data)]
			if err != api.OK || found && !same(v, other) {
				t.Fatalf("%+v and %+v have the same file, %v", v, other, err)
			}
			files[string(data)] = v
		}
	}
	if len(files) < 1100 {
		t.Error("only", len(files))
	}
}

// R5: Write neither keeps nor changes the records, and Read shares nothing with its bytes.
func TestNewMemory(t *testing.T) {
	for format := 1; format <= 3; format++ {
		list := calls(3)
		b := api.Batch{Source: 1, Number: 1, Format: format, Records: list[:2]}
		data, _ := Write(b)
		want := slices.Clone(data)
		if !slices.Equal(list, calls(3)) || Check(b) != api.OK || Totals(b.Records).Count != 2 {
			t.Error(list)
		}
		clear(list)
		if !bytes.Equal(data, want) {
			t.Errorf("format %d: Write shares memory", format)
		}
		data = append(data, 1, 2, 3)[:len(want)] // with spare capacity
		got, _, err := Read(data)
		h, _ := Head(data)
		if !bytes.Equal(data[:len(want)+3], append(want, 1, 2, 3)) {
			t.Errorf("format %d: Read changed its argument", format)
		}
		clear(data)
		if !slices.Equal(got.Records, calls(2)) || err != api.OK || h != (api.Head{Source: 1, Number: 1, Format: format, Count: 2}) {
			t.Errorf("format %d: %+v, %v, %v", format, got, err, h)
		}
	}
}
