package packed

import (
	"bytes"
	"encoding/hex"
	"fmt"
	"math"
	"math/rand"
	"regexp"
	"slices"
	"strconv"
	"strings"
	"testing"

	"billing/api"
	"billing/records"
	"billing/samples"
)

// data is the record of the chapter's third example, with these bytes.
var data = api.Record{Source: 1, Serial: 300, Kind: api.KindData, A: "123", Units: 2}

const dataBytes = "01 0000000300 30 3123000000000000 0000000000000000 000000000000 00000000000002 0000000000 00 0000 8a"

// modelCheckByte returns the check byte of bytes.
func modelCheckByte(b []byte) byte {
	total := 0
	for _, x := range b {
		total += int(x)
	}
	return byte(total % 256)
}

// checked returns the bytes that are written in hexadecimal, with their check byte.
func checked(s string) []byte {
	b := unhex(s)
	return append(b, modelCheckByte(b))
}

// modelPhone returns the hexadecimal field of a telephone number.
func modelPhone(s string) string {
	return fmt.Sprintf("%x%s%s", len(s), s, strings.Repeat("0", 15-len(s)))
}

// modelEncode returns the bytes of a valid record.
func modelEncode(r api.Record) []byte {
	truth := map[bool]int{true: 1}
	return checked(fmt.Sprintf("%02d%010d%x%x%s%s%012d%014d%010d%02d%04d", r.Source, r.Serial, r.Kind, truth[r.Last]+2*truth[r.Inbound], modelPhone(r.A), modelPhone(r.B), r.Start, r.Units, r.Call, r.Part, r.Trunk))
}

// form is what the fields of a record match, in hexadecimal.
var form = regexp.MustCompile(strings.ReplaceAll(`^(D{2})(D{10})([0-9a-f])([0-3])([0-9a-f]{16})([0-9a-f]{16})(D{12})(D{14})(D{10})(D{2})(D{4})$`, "D", "[0-9]"))

// modelNumber returns the telephone number of a hexadecimal field, or false if there is no such number.
func modelNumber(field string) (string, bool) {
	n, _ := strconv.ParseInt(field[:1], 16, 64)
	s := field[1 : 1+n]
	return s, strings.Trim(s, "0123456789") == "" && strings.Trim(field[1+n:], "0") == ""
}

// modelDecode decodes the bytes of a record by their hexadecimal form.
func modelDecode(b []byte) (api.Record, api.Errno) {
	if len(b) < 45 {
		return api.Record{}, api.ErrTruncated
	}
	if len(b) > 45 {
		return api.Record{}, api.ErrTrailing
	}
	if b[44] != modelCheckByte(b[:44]) {
		return api.Record{}, api.ErrChecksum
	}
	m := form.FindStringSubmatch(hex.EncodeToString(b[:44]))
	if m == nil {
		return api.Record{}, api.ErrSyntax
	}
	n := func(i int) int { v, _ := strconv.Atoi(m[i]); return v }
	kind, _ := strconv.ParseInt(m[3], 16, 64)
	r := api.Record{Source: n(1), Serial: n(2), Kind: int(kind), Last: m[4] == "1" || m[4] == "3", Inbound: m[4] > "1", Start: n(7), Units: n(8), Call: n(9), Part: n(10), Trunk: n(11)}
	var isA, isB bool
	r.A, isA = modelNumber(m[5])
	r.B, isB = modelNumber(m[6])
	if !isA || !isB {
		return api.Record{}, api.ErrSyntax
	}
	if err := records.Check(r); err != api.OK {
		return api.Record{}, err
	}
	return r, api.OK
}

// P11.3, P11.4: records and their bytes.
func TestExamples(t *testing.T) {
	for _, x := range []struct {
		r    api.Record
		want []byte
	}{
		{data, unhex(dataBytes)},
		{api.Record{Source: 1, Serial: 7, Kind: api.KindVoice, A: "4915", B: "4930", Start: 60, Units: 90}, checked("01 0000000007 10 4491500000000000 4493000000000000 000000000060 00000000000090 0000000000 00 0000")},
		{api.Record{Source: 99, Serial: 999999999, Kind: api.KindVoice, A: "123456789012345", B: "0", Start: 12622780799, Units: 1, Call: 999999999, Part: 99, Last: true, Trunk: 999, Inbound: true},
			checked("99 0999999999 13 f123456789012345 1000000000000000 012622780799 00000000000001 0999999999 99 0999")},
		{api.Record{Source: 10, Serial: 10, Kind: api.KindText, A: "00000000000000", B: "99999", Units: api.MaxUnits, Call: 1, Part: 10, Last: true}, checked("10 0000000010 21 e000000000000000 5999990000000000 000000000000 01099511627776 0000000001 10 0000")},
		{api.Record{Source: 1, Serial: 1, Kind: api.KindContent, A: "1234567890", Trunk: 1, Inbound: true}, checked("01 0000000001 42 a123456789000000 0000000000000000 000000000000 00000000000000 0000000000 00 0001")},
	} {
		if b, err := Encode(x.r); !bytes.Equal(b, x.want) || err != api.OK {
			t.Errorf("Encode(%+v) = %x, %v, not %x", x.r, b, err, x.want)
		}
		if r, err := Decode(x.want); r != x.r || err != api.OK {
			t.Errorf("Decode(%x) = %+v, %v, not %+v", x.want, r, err, x.r)
		}
	}
}

// P11.3: the bytes of a valid record, and the error of one that is not. P11.6: Decode reverses Encode.
func TestEncode(t *testing.T) {
	rnd := rand.New(rand.NewSource(113))
	for range 50000 {
		r := samples.Record(rnd.Intn)
		b, err := Encode(r)
		if want := records.Check(r); err != want || err != api.OK && len(b) != 0 {
			t.Fatalf("Encode(%+v) = %x, %v, not %v", r, b, err, want)
		}
		if err != api.OK {
			continue
		}
		if !bytes.Equal(b, modelEncode(r)) {
			t.Fatalf("Encode(%+v) = %x, not %x", r, b, modelEncode(r))
		}
		if got, err := Decode(b); got != r || err != api.OK {
			t.Fatalf("Decode(%x) = %+v, %v, not %+v", b, got, err, r)
		}
	}
}

// P11.3: each of the errors of a record, also for values that would fit the field.
func TestEncodeErrors(t *testing.T) {
	for _, x := range []struct {
		change func(r *api.Record)
		want   api.Errno
	}{
		{func(r *api.Record) { *r = api.Record{} }, api.ErrRange},
		{func(r *api.Record) { r.Source = math.MinInt }, api.ErrRange},
		{func(r *api.Record) { r.Serial = 9999999999 }, api.ErrRange},
		{func(r *api.Record) { r.Kind = api.Kinds }, api.ErrKind},
		{func(r *api.Record) { r.A = "" }, api.ErrNumber},
		{func(r *api.Record) { r.B = "1234567890123456" }, api.ErrNumber},
		{func(r *api.Record) { r.Kind = api.KindVoice }, api.ErrNumber},
		{func(r *api.Record) { r.Start = api.Forever }, api.ErrTime},
		{func(r *api.Record) { r.Units = 99999999999999 }, api.ErrRange},
		{func(r *api.Record) { r.Part = 100 }, api.ErrRange},
		{func(r *api.Record) { r.Call = 1 }, api.ErrInvalid},
		{func(r *api.Record) { r.Last = true }, api.ErrInvalid},
		{func(r *api.Record) { r.Trunk = 9999 }, api.ErrRange},
		{func(r *api.Record) { r.Inbound = true }, api.ErrInvalid},
	} {
		r := data
		x.change(&r)
		if b, err := Encode(r); len(b) != 0 || err != x.want {
			t.Errorf("Encode(%+v) = %x, %v, not %v", r, b, err, x.want)
		}
	}
}

// Positions of the fields in the bytes of a record.
const (
	atSource = 0
	atSerial = 1
	atKind   = 6
	atA      = 7
	atB      = 15
	atStart  = 23
	atUnits  = 29
	atCall   = 36
	atPart   = 41
	atTrunk  = 42
)

// changed returns the bytes of data with others from a position on, and with the check byte of all these.
func changed(position int, s string) []byte {
	b := unhex(dataBytes)[:44]
	copy(b[position:], unhex(s))
	return append(b, modelCheckByte(b))
}

// P11.4: ErrSyntax for each field that does not have its form, also if the record has an error.
func TestDecodeSyntax(t *testing.T) {
	for position, list := range map[int][]string{
		atSource: {"0a", "a0", "1f", "ff"},
		atSerial: {"a000000300", "000000030a", "0000f00300", "ffffffffff"},
		atKind:   {"34", "35", "37", "38", "3f", "04", "54", "ff"},
		atA: {"3a23", "31a3", "312a", "f12345678901234a", "fa23456789012345", // groups among the digits
			"3123100000000000", "3123000000000001", "31230000f0000000", "e123456789012341", "0100", "0000000000000001", "2123", "ffffffffffffffff"}, // groups behind them
		atB:     {"1a", "2a10", "2ab0", "a123456789a0", "1110", "0ff0", "11000000000000f0", "0100", "0a", "f00000000000000f", "0000000000000001", "a123456789000001"},
		atStart: {"a00000000000", "00000000000a", "0000f0000000"},
		atUnits: {"a0000000000002", "0000000000000a", "0000000c000002"},
		atCall:  {"a000000000", "000000000a", "0000e00000"},
		atPart:  {"a0", "0a", "ff"},
		atTrunk: {"a000", "0a00", "00a0", "000a"},
		// the error of the record would be ErrRange
		atSerial + 1: {"00000000 3a", "00000000 54"},
	} {
		for _, s := range list {
			if r, err := Decode(changed(position, s)); r != (api.Record{}) || err != api.ErrSyntax {
				t.Errorf("Decode with %s from %d on = %+v, %v", s, position, r, err)
			}
		}
	}
}

// P11.4: the error of the record whose fields have their forms, and the zero record beside it (R3).
func TestDecodeInvalid(t *testing.T) {
	for _, x := range []struct {
		position int
		bytes    string
		want     api.Errno
	}{
		{atSource, "00", api.ErrRange}, {atSerial, "0000000000", api.ErrRange}, {atSerial, "1000000000", api.ErrRange}, {atSerial, "9999999999", api.ErrRange}, {atSource, "00 0000000001 90", api.ErrRange},
		{atKind, "00", api.ErrKind}, {atKind, "03", api.ErrKind}, {atKind, "50", api.ErrKind}, {atKind, "93", api.ErrKind}, {atKind, "a0", api.ErrKind}, {atKind, "f3", api.ErrKind}, {atKind, "50 0000000000000000", api.ErrKind},
		{atKind, "10", api.ErrNumber}, {atKind, "20", api.ErrNumber}, {atA, "0000000000000000", api.ErrNumber}, {atKind, "10 0000000000000000 1100000000000000", api.ErrNumber},
		{atStart, "012622780800", api.ErrTime}, {atStart, "999999999999", api.ErrTime}, {atStart, "999999999999 99999999999999", api.ErrTime},
		{atUnits, "01099511627777", api.ErrRange}, {atUnits, "99999999999999", api.ErrRange}, {atKind, "10 1100000000000000 1200000000000000 000000000000 00000000604801", api.ErrRange},
		{atKind, "10 1100000000000000 1200000000000000 012622780799 00000000000002", api.ErrTime},
		{atCall, "1000000000 01", api.ErrRange}, {atCall, "9999999999 00", api.ErrRange},
		{atCall, "0000000001 00", api.ErrInvalid}, {atPart, "01", api.ErrInvalid}, {atKind, "31", api.ErrInvalid}, {atPart, "01 9999", api.ErrInvalid},
		{atTrunk, "1000", api.ErrRange}, {atTrunk, "9999", api.ErrRange},
		{atKind, "32", api.ErrInvalid}, {atKind, "33", api.ErrInvalid},
	} {
		if r, err := Decode(changed(x.position, x.bytes)); r != (api.Record{}) || err != x.want {
			t.Errorf("Decode with %s from %d on = %+v, %v, not %v", x.bytes, x.position, r, err, x.want)
		}
	}
}

// P11.4: the errors that come before the forms of the fields, in their order.
func TestDecodeErrors(t *testing.T) {
	whole := unhex(dataBytes)
	wrong := slices.Clone(whole)
	wrong[44]++
	nonsense := bytes.Repeat([]byte{255}, 100)
	for _, x := range []struct {
		b    []byte
		want api.Errno
	}{
		{nil, api.ErrTruncated}, {[]byte{}, api.ErrTruncated}, {[]byte{1}, api.ErrTruncated}, {whole[:44], api.ErrTruncated}, {whole[1:], api.ErrTruncated}, {nonsense[:44], api.ErrTruncated},
		{append(slices.Clone(whole), 0), api.ErrTrailing}, {append(slices.Clone(wrong), 1), api.ErrTrailing}, {append(slices.Clone(whole), whole...), api.ErrTrailing}, {nonsense[:46], api.ErrTrailing}, {nonsense, api.ErrTrailing},
		{wrong, api.ErrChecksum}, {nonsense[:45], api.ErrChecksum}, {append(nonsense[:44:44], 0), api.ErrChecksum}, {append(make([]byte, 44), 1), api.ErrChecksum},
		{append(nonsense[:44:44], 212), api.ErrSyntax}, // 44 * 255 modulo 256
		{make([]byte, 45), api.ErrRange},
	} {
		if r, err := Decode(x.b); r != (api.Record{}) || err != x.want {
			t.Errorf("Decode(%x) = %+v, %v, not %v", x.b, r, err, x.want)
		}
	}
}

// randomBytes returns the bytes of a record in which a group of four bits or two were changed, mostly with the check byte of what came out.
func randomBytes(rnd *rand.Rand) []byte {
	b, err := Encode(samples.Record(rnd.Intn))
	if err != api.OK {
		b = unhex(dataBytes)
	}
	b = b[:44]
	for range rnd.Intn(3) {
		i, shift := rnd.Intn(44), 4*rnd.Intn(2)
		b[i] = b[i]&(240>>shift) | []byte{0, 1, 2, 3, 4, 9, 10, 15}[rnd.Intn(8)]<<shift
	}
	check := modelCheckByte(b)
	if rnd.Intn(20) == 0 {
		check += byte(rnd.Intn(3))
	}
	return append(b, check)
}

// P11.4, P11.6: Decode against the model, for bytes that are often wrong; Encode reverses it.
func TestDecodeAgainstModel(t *testing.T) {
	rnd := rand.New(rand.NewSource(114))
	found := map[api.Errno]int{}
	for range 200000 {
		b := randomBytes(rnd)
		r, err := Decode(b)
		if want, e := modelDecode(b); r != want || err != e {
			t.Fatalf("Decode(%x) = %+v, %v, not %+v, %v", b, r, err, want, e)
		}
		found[err]++
		if err != api.OK {
			continue
		}
		if back, err := Encode(r); !bytes.Equal(back, b) || err != api.OK {
			t.Fatalf("Encode of Decode of %x = %x, %v", b, back, err)
		}
	}
	for _, err := range []api.Errno{api.OK, api.ErrChecksum, api.ErrSyntax, api.ErrRange, api.ErrKind, api.ErrNumber, api.ErrTime, api.ErrInvalid} {
		if found[err] < 100 {
			t.Error("error", err, "only", found[err])
		}
	}
}

// P11.7: whichever byte is replaced, and by whichever one.
func TestDamage(t *testing.T) {
	rnd := rand.New(rand.NewSource(117))
	for range 20 {
		b, err := Encode(samples.Record(rnd.Intn))
		if err != api.OK {
			b = unhex(dataBytes)
		}
		for i := range b {
			for range 255 {
				b[i]++
				if r, err := Decode(b); r != (api.Record{}) || err != api.ErrChecksum {
					t.Fatalf("Decode(%x) = %+v, %v", b, r, err)
				}
			}
			b[i]++ // as it was
		}
	}
}

// P11.5: the records and the rejects of bytes.
func TestAll(t *testing.T) {
	wrong := unhex(dataBytes)
	wrong[10]++
	list, rejects, err := All(slices.Concat(wrong, unhex(dataBytes), changed(atKind, "3f"), changed(atTrunk, "1000"), unhex(dataBytes), changed(atKind, "50")))
	if !slices.Equal(list, []api.Record{data, data}) || err != api.OK {
		t.Error(list, err)
	}
	if want := []api.Reject{{Index: 0, Err: api.ErrChecksum}, {Index: 2, Err: api.ErrSyntax}, {Index: 3, Err: api.ErrRange}, {Index: 5, Err: api.ErrKind}}; !slices.Equal(rejects, want) {
		t.Error(rejects, want)
	}
	for _, b := range [][]byte{nil, {}} {
		if list, rejects, err := All(b); len(list)+len(rejects) != 0 || err != api.OK {
			t.Error(list, rejects, err)
		}
	}
	rnd := rand.New(rand.NewSource(115))
	for range 3000 {
		var b []byte
		var want []api.Record
		var refused []api.Reject
		for i := range rnd.Intn(10) {
			one := randomBytes(rnd)
			if r, err := modelDecode(one); err == api.OK {
				want = append(want, r)
			} else {
				refused = append(refused, api.Reject{Index: i, Err: err})
			}
			b = append(b, one...)
		}
		if list, rejects, err := All(b); !slices.Equal(list, want) || !slices.Equal(rejects, refused) || err != api.OK {
			t.Fatalf("All(%x) = %+v, %v, %v, not %+v, %v", b, list, rejects, err, want, refused)
		}
	}
}

// P11.5: the errors of All, in their order; there is nothing beside them (R3).
func TestAllErrors(t *testing.T) {
	whole := bytes.Repeat(unhex(dataBytes), api.MaxRecords)
	zeros := make([]byte, 45*(api.MaxRecords+1)+1)
	for _, x := range []struct {
		b    []byte
		want api.Errno
	}{
		{[]byte{0}, api.ErrTruncated}, {whole[:44], api.ErrTruncated}, {whole[:46], api.ErrTruncated}, {whole[:len(whole)-1], api.ErrTruncated}, {append(slices.Clone(whole), 0), api.ErrTruncated},
		{zeros, api.ErrTruncated}, {append(slices.Clone(whole), zeros[:44]...), api.ErrTruncated}, {slices.Concat(whole, whole, whole[:44]), api.ErrTruncated},
		{append(slices.Clone(whole), whole[:45]...), api.ErrTooLong}, {zeros[1:], api.ErrTooLong}, {append(slices.Clone(whole), whole...), api.ErrTooLong},
	} {
		if list, rejects, err := All(x.b); len(list)+len(rejects) != 0 || err != x.want {
			t.Errorf("All of %d bytes: %d records, %d rejects, %v, not %v", len(x.b), len(list), len(rejects), err, x.want)
		}
	}
	if list, rejects, err := All(whole); len(list) != api.MaxRecords || len(rejects) != 0 || err != api.OK {
		t.Error(len(list), len(rejects), err)
	}
	if list, rejects, err := All(zeros[46:]); len(list) != 0 || len(rejects) != api.MaxRecords || err != api.OK {
		t.Error(len(list), len(rejects), err)
	}
}

// R5: what Encode returns is not changed by later calls, and Decode and All leave their bytes as they are.
func TestBytesStay(t *testing.T) {
	a, _ := Encode(data)
	b, _ := Encode(data)
	clear(b)
	_ = append(a, 1, 2, 3)
	if !bytes.Equal(a, unhex(dataBytes)) {
		t.Errorf("%x", a)
	}
	a = append(a, 1, 2, 3)[:45] // with spare capacity
	r, _ := Decode(a)
	list, _, _ := All(a)
	if !bytes.Equal(a[:48], append(unhex(dataBytes), 1, 2, 3)) {
		t.Errorf("%x", a[:48])
	}
	clear(a)
	if r != data || !slices.Equal(list, []api.Record{data}) {
		t.Error(r, list)
	}
}
