package tagged

import (
	"bytes"
	"encoding/hex"
	"math"
	"math/big"
	"math/rand"
	"slices"
	"strings"
	"testing"

	"billing/api"
	"billing/records"
	"billing/samples"
)

// data is the record of the chapter's second example, with these bytes.
var data = api.Record{Source: 1, Serial: 300, Kind: api.KindData, A: "123", Units: 2}

const dataBytes = "00110101030201010302012c0402123f070102"

// unhex returns the bytes that are written in hexadecimal, with spaces between them or not.
func unhex(s string) []byte {
	b, err := hex.DecodeString(strings.ReplaceAll(s, " ", ""))
	if err != nil {
		panic(err)
	}
	return b
}

// wrap puts the number of bytes in front of hexadecimal elements.
func wrap(s string) []byte {
	b := unhex(s)
	return append([]byte{byte(len(b) / 256), byte(len(b) % 256)}, b...)
}

// modelEncode returns the bytes of a valid record.
func modelEncode(r api.Record) []byte {
	number := func(n int) []byte { return big.NewInt(int64(n)).Bytes() }
	packed := func(s string) []byte { return unhex(s + "f"[:len(s)%2]) }
	truth := map[bool]int{true: 1}
	var b []byte
	for i, value := range [][]byte{
		number(r.Kind), number(r.Source), number(r.Serial), packed(r.A), packed(r.B), number(r.Start), number(r.Units),
		number(r.Call), number(r.Part), number(r.Trunk), number(truth[r.Last] + 2*truth[r.Inbound]),
	} {
		if len(value) > 0 {
			b = append(b, byte(i+1), byte(len(value)))
			b = append(b, value...)
		}
	}
	return wrap(hex.EncodeToString(b))
}

// modelField returns the record with one more field, or false if the value does not have its form.
func modelField(r api.Record, e api.Element) (api.Record, bool) {
	n := 0
	for _, x := range e.Value {
		n = n*256 + int(x)
	}
	s := hex.EncodeToString(e.Value)
	s = strings.TrimSuffix(s, "f")
	number := len(e.Value) >= 1 && len(e.Value) <= 6 && e.Value[0] > 0
	packed := len(s) >= 1 && len(s) <= 15 && strings.Trim(s, "0123456789") == ""
	ok := [...]bool{number, number, number, packed, packed, number, number, number, number, number, number && len(e.Value) == 1 && n <= 3}
	if e.Tag > 11 || !ok[e.Tag-1] {
		return r, false
	}
	if e.Tag == 4 {
		r.A = s
	}
	if e.Tag == 5 {
		r.B = s
	}
	if e.Tag == 11 {
		r.Last, r.Inbound = n == 1 || n == 3, n > 1
	}
	var other int
	*[...]*int{&r.Kind, &r.Source, &r.Serial, &other, &other, &r.Start, &r.Units, &r.Call, &r.Part, &r.Trunk, &other}[e.Tag-1] = n
	return r, true
}

// modelDecode decodes the bytes of a record.
func modelDecode(b []byte) (api.Record, api.Errno) {
	if len(b) < 2 || len(b) < 2+int(b[0])*256+int(b[1]) {
		return api.Record{}, api.ErrTruncated
	}
	if len(b) > 2+int(b[0])*256+int(b[1]) {
		return api.Record{}, api.ErrTrailing
	}
	list, err := modelElements(b[2:], 0)
	if err != api.OK {
		return api.Record{}, err
	}
	var r api.Record
	for _, e := range list {
		var ok bool
		if r, ok = modelField(r, e); !ok {
			return api.Record{}, api.ErrSyntax
		}
	}
	if err := records.Check(r); err != api.OK {
		return api.Record{}, err
	}
	return r, api.OK
}

// P10.3, P10.4: records and their bytes.
func TestExamples(t *testing.T) {
	for _, x := range []struct {
		r    api.Record
		want []byte
	}{
		{data, unhex(dataBytes)},
		{api.Record{Source: 1, Serial: 7, Kind: api.KindVoice, A: "4915", B: "4930", Start: 60, Units: 90}, wrap("010101 020101 030107 04024915 05024930 06013c 07015a")},
		{api.Record{Source: 99, Serial: 999999999, Kind: api.KindVoice, A: "123456789012345", B: "0", Start: 12622780799, Units: 1, Call: 256, Part: 99, Last: true, Trunk: 999, Inbound: true},
			wrap("010101 020163 03043b9ac9ff 0408123456789012345f 05010f 060502f060597f 070101 08020100 090163 0a0203e7 0b0103")},
		{api.Record{Source: 1, Serial: 256, Kind: api.KindText, A: "1", B: "23", Units: api.MaxUnits, Call: 1, Part: 1, Last: true}, wrap("010102 020101 03020100 04011f 050123 0706010000000000 080101 090101 0b0101")},
		{api.Record{Source: 1, Serial: 255, Kind: api.KindContent, A: "1", Trunk: 1, Inbound: true}, wrap("010104 020101 0301ff 04011f 0a0101 0b0102")},
		{api.Record{Source: 1, Serial: 65536, Kind: api.KindContent, A: "1", Trunk: 255}, wrap("010104 020101 0303010000 04011f 0a01ff")},
	} {
		if b, err := Encode(x.r); !bytes.Equal(b, x.want) || err != api.OK {
			t.Errorf("Encode(%+v) = %x, %v, not %x", x.r, b, err, x.want)
		}
		if r, err := Decode(x.want); r != x.r || err != api.OK {
			t.Errorf("Decode(%x) = %+v, %v, not %+v", x.want, r, err, x.r)
		}
	}
}

// P10.3: the bytes of a valid record, and the error of one that is not. P10.6: Decode reverses Encode.
func TestEncode(t *testing.T) {
	rnd := rand.New(rand.NewSource(103))
	for range 50000 {
		r := samples.Record(rnd.Intn)
		b, err := Encode(r)
		if want := records.Check(r); err != want || err != api.OK && len(b) != 0 {
			t.Fatalf("Encode(%+v) = %x, %v, not %v", r, b, err, want)
		}
		if err != api.OK {
			continue
		}
		if !bytes.Equal(b, modelEncode(r)) {
			t.Fatalf("Encode(%+v) = %x, not %x", r, b, modelEncode(r))
		}
		if got, err := Decode(b); got != r || err != api.OK {
			t.Fatalf("Decode(%x) = %+v, %v, not %+v", b, got, err, r)
		}
	}
}

// P10.3: each of the errors of a record, with values of any size.
func TestEncodeErrors(t *testing.T) {
	for _, x := range []struct {
		change func(r *api.Record)
		want   api.Errno
	}{
		{func(r *api.Record) { *r = api.Record{} }, api.ErrRange},
		{func(r *api.Record) { r.Source = math.MinInt }, api.ErrRange},
		{func(r *api.Record) { r.Serial = math.MaxInt }, api.ErrRange},
		{func(r *api.Record) { r.Kind = 256 + api.KindData }, api.ErrKind},
		{func(r *api.Record) { r.A = "" }, api.ErrNumber},
		{func(r *api.Record) { r.B = "12f" }, api.ErrNumber},
		{func(r *api.Record) { r.Kind = api.KindVoice }, api.ErrNumber},
		{func(r *api.Record) { r.Start = -1 }, api.ErrTime},
		{func(r *api.Record) { r.Units = math.MaxInt }, api.ErrRange},
		{func(r *api.Record) { r.Part = 100 }, api.ErrRange},
		{func(r *api.Record) { r.Call = 1 }, api.ErrInvalid},
		{func(r *api.Record) { r.Last = true }, api.ErrInvalid},
		{func(r *api.Record) { r.Trunk = math.MinInt }, api.ErrRange},
		{func(r *api.Record) { r.Inbound = true }, api.ErrInvalid},
	} {
		r := data
		x.change(&r)
		if b, err := Encode(r); len(b) != 0 || err != x.want {
			t.Errorf("Encode(%+v) = %x, %v, not %v", r, b, err, x.want)
		}
	}
}

// P10.4: the errors of Decode, in their order, and the zero record beside them (R3).
func TestDecodeErrors(t *testing.T) {
	for want, list := range map[api.Errno][][]byte{
		api.ErrTruncated: {nil, {}, {0}, {0, 1}, {0, 2, 1}, {1, 0}, {255, 255, 0, 0}, unhex(dataBytes)[:18], {0, 2, 0}, {1, 17, 1, 1, 3},
			wrap("01"), wrap("0101"), wrap("010101 0202 01"), wrap("0100 02"), wrap("010100 2001")},
		api.ErrTrailing: {unhex(dataBytes + "00"), unhex("0000 00"), unhex("0000 0000"), unhex("0001 0000"), unhex("0003 010101 020101"), unhex(dataBytes + dataBytes)},
		api.ErrRange: {wrap(""), wrap("0000"), wrap("00"), wrap("0102 0000 0000"), wrap("010103"), wrap("010103 020164 030101 04011f"), wrap("010103 020101 03043b9aca00 04011f"), wrap("010103 0206ffffffffffff"),
			wrap("010101 020101 030101 04011f 05011f 0703093a81"), wrap("010103 020101 030101 04011f 0706010000000001"), wrap("010103 020101 030101 04011f 080101 090164"), wrap("010103 020101 030101 04011f 0a0203e8")},
		api.ErrOrder: {wrap("010101 010101"), wrap("020101 010101"), wrap("010101 030107 0201"), wrap("200100 0401"), wrap("ff00 ff00")},
		api.ErrSyntax: {
			// no tag of a field
			wrap("0c0101"), wrap("ff00"), wrap("010103 020101 0302012c 0402123f 070102 0c00"), wrap("010103 020101 0302012c 0402123f 070102 0c0101"), wrap("0d0101 0e0101"),
			// numbers
			wrap("0100"), wrap("010100"), wrap("01020001"), wrap("0107 01000000000000"), wrap("01ff" + strings.Repeat("01", 255)), wrap("0200"), wrap("020100"), wrap("03020001"), wrap("0600"), wrap("060100"), wrap("0700"), wrap("0706 000000000001"),
			wrap("0800"), wrap("080100"), wrap("0900"), wrap("09020001"), wrap("0a00"), wrap("0a0100"), wrap("0607 01000000000000"),
			// telephone numbers
			wrap("0400"), wrap("0500"), wrap("0401f1"), wrap("0401ff"), wrap("04011a"), wrap("0401a1"), wrap("04021f23"), wrap("04021ff1"), wrap("0408 1234567890123456"), wrap("0409 12345678901234567f"), wrap("05011a"), wrap("0502 12ff"), wrap("0508 1234567890123456"),
			// flags
			wrap("0b00"), wrap("0b0100"), wrap("0b0104"), wrap("0b0105"), wrap("0b01ff"), wrap("0b020001"), wrap("0b020101"),
			// the form comes before the error of the record
			wrap("010105 020100"), wrap("010103 020164 030101 0401ff"),
		},
		api.ErrKind:    {wrap("010105 020101 030101 04011f"), wrap("01020101 020101 030101 04011f"), wrap("020101 030101 04011f 05011f"), wrap("0106ffffffffffff 020101 030101")},
		api.ErrNumber:  {wrap("010103 020101 030101"), wrap("010101 020101 030101 04011f"), wrap("010101 020101 030101 05011f"), wrap("010103 020101 030101 05011f 0606ffffffffffff")},
		api.ErrTime:    {wrap("010103 020101 030101 04011f 060502f0605980"), wrap("010101 020101 030101 04011f 05011f 060502f060597f 070102"), wrap("010103 020101 030101 04011f 0606ffffffffffff 0706ffffffffffff")},
		api.ErrInvalid: {wrap("010103 020101 030101 04011f 080101"), wrap("010103 020101 030101 04011f 090101"), wrap("010103 020101 030101 04011f 0b0101"), wrap("010103 020101 030101 04011f 0b0102"), wrap("010103 020101 030101 04011f 080101 090101 0b0103")},
	} {
		for _, b := range list {
			if r, err := Decode(b); r != (api.Record{}) || err != want {
				t.Errorf("Decode(%.30x) = %+v, %v, not %v", b, r, err, want)
			}
		}
	}
}

// P10.4: the greatest number of bytes of elements that two bytes can tell.
func TestDecodeLongest(t *testing.T) {
	b := append([]byte{255, 255}, modelBuild(fullList())...)
	for i, want := range []api.Errno{api.ErrSyntax, api.ErrTruncated, api.ErrTruncated} {
		if r, err := Decode(b[:len(b)-i]); r != (api.Record{}) || err != want {
			t.Error(i, r, err, want)
		}
	}
	if r, err := Decode(append(b, 0)); r != (api.Record{}) || err != api.ErrTrailing {
		t.Error(r, err)
	}
}

// randomBytes returns the bytes of a record in which one element was exchanged, removed, added or moved, so that they are often wrong.
func randomBytes(rnd *rand.Rand) []byte {
	var list []api.Element
	if b, err := Encode(samples.Record(rnd.Intn)); err == api.OK {
		list, _ = Elements(b[2:])
	}
	value := make([]byte, rnd.Intn(9))
	for i := range value {
		value[i] = []byte{0, 1, 2, 3, 4, 0x12, 0x1f, 0xf1, 0xff}[rnd.Intn(9)]
	}
	if n := len(list); n > 0 {
		switch i := rnd.Intn(n); rnd.Intn(6) {
		case 0:
			list[i].Value = value
		case 1:
			list = slices.Delete(list, i, i+1)
		case 2:
			list = slices.Insert(list, i, api.Element{Tag: rnd.Intn(14), Value: value})
		case 3:
			list[i].Tag += rnd.Intn(3) - 1
		case 4:
			list = append(list, api.Element{Tag: list[n-1].Tag + rnd.Intn(3), Value: value})
		}
	}
	b := wrap(hex.EncodeToString(modelBuild(list)))
	if rnd.Intn(8) == 0 {
		b[rnd.Intn(len(b))] += byte(rnd.Intn(3))
	}
	return b
}

// P10.4, P10.6: Decode against the model, for bytes that are often wrong; Encode reverses it.
func TestDecodeAgainstModel(t *testing.T) {
	rnd := rand.New(rand.NewSource(104))
	accepted := 0
	for range 200000 {
		b := randomBytes(rnd)
		r, err := Decode(b)
		if want, e := modelDecode(b); r != want || err != e {
			t.Fatalf("Decode(%x) = %+v, %v, not %+v, %v", b, r, err, want, e)
		}
		if err != api.OK {
			continue
		}
		accepted++
		if back, err := Encode(r); !bytes.Equal(back, b) || err != api.OK {
			t.Fatalf("Encode of Decode of %x = %x, %v", b, back, err)
		}
	}
	if accepted < 10000 {
		t.Error("only", accepted)
	}
}

// P10.7: no proper beginning of the bytes of a record is decoded.
func TestTruncated(t *testing.T) {
	rnd := rand.New(rand.NewSource(107))
	for range 2000 {
		b, _ := Encode(samples.Record(rnd.Intn))
		for n := range b {
			if r, err := Decode(b[:n]); r != (api.Record{}) || err != api.ErrTruncated {
				t.Fatalf("Decode(%x) = %+v, %v", b[:n], r, err)
			}
		}
	}
}

// P10.5: the records and the rejects of bytes.
func TestAll(t *testing.T) {
	list, rejects, err := All(slices.Concat(wrap(""), unhex(dataBytes), wrap("0101"), wrap("010101 010101"), wrap("0c0101"), unhex(dataBytes)))
	if !slices.Equal(list, []api.Record{data, data}) || err != api.OK {
		t.Error(list, err)
	}
	if want := []api.Reject{{Index: 0, Err: api.ErrRange}, {Index: 2, Err: api.ErrTruncated}, {Index: 3, Err: api.ErrOrder}, {Index: 4, Err: api.ErrSyntax}}; !slices.Equal(rejects, want) {
		t.Error(rejects, want)
	}
	for _, b := range [][]byte{nil, {}} {
		if list, rejects, err := All(b); len(list)+len(rejects) != 0 || err != api.OK {
			t.Error(list, rejects, err)
		}
	}
	rnd := rand.New(rand.NewSource(105))
	for range 3000 {
		var b []byte
		var want []api.Record
		var refused []api.Reject
		for i := range rnd.Intn(10) {
			one := randomBytes(rnd)
			r, err := modelDecode(one)
			switch {
			case len(one) != 2+int(one[0])*256+int(one[1]): // it would swallow the next ones, or a part of it be one of them
				one, err = wrap(""), api.ErrRange
				fallthrough
			case err != api.OK:
				refused = append(refused, api.Reject{Index: i, Err: err})
			default:
				want = append(want, r)
			}
			b = append(b, one...)
		}
		if list, rejects, err := All(b); !slices.Equal(list, want) || !slices.Equal(rejects, refused) || err != api.OK {
			t.Fatalf("All(%x) = %+v, %v, %v, not %+v, %v", b, list, rejects, err, want, refused)
		}
	}
}

// P10.5: the errors of All, at the first record at which one occurs; there is nothing beside them (R3).
func TestAllErrors(t *testing.T) {
	whole := bytes.Repeat(unhex(dataBytes), api.MaxRecords)
	empty := make([]byte, 2*api.MaxRecords)
	for _, x := range []struct {
		b    []byte
		want api.Errno
	}{
		{[]byte{0}, api.ErrTruncated}, {[]byte{0, 1}, api.ErrTruncated}, {unhex(dataBytes)[:18], api.ErrTruncated}, {unhex(dataBytes + "00"), api.ErrTruncated}, {unhex(dataBytes + "0002 01"), api.ErrTruncated},
		{unhex("0000" + dataBytes + "ffff"), api.ErrTruncated}, {append([]byte{0, 1}, empty...), api.ErrTooLong},
		{whole[:len(whole)-1], api.ErrTruncated}, {empty[:len(empty)-1], api.ErrTruncated}, {append(slices.Clone(whole[19:]), 1), api.ErrTruncated},
		{append(slices.Clone(whole), 0), api.ErrTooLong}, {append(slices.Clone(whole), 0, 9, 0), api.ErrTooLong}, {append(slices.Clone(whole), whole...), api.ErrTooLong}, {append(slices.Clone(empty), 0, 0), api.ErrTooLong}, {append(slices.Clone(empty), 0), api.ErrTooLong},
	} {
		if list, rejects, err := All(x.b); len(list)+len(rejects) != 0 || err != x.want {
			t.Errorf("All of %d bytes: %d records, %d rejects, %v, not %v", len(x.b), len(list), len(rejects), err, x.want)
		}
	}
	if list, rejects, err := All(whole); len(list) != api.MaxRecords || len(rejects) != 0 || err != api.OK {
		t.Error(len(list), len(rejects), err)
	}
	if list, rejects, err := All(empty); len(list) != 0 || len(rejects) != api.MaxRecords || err != api.OK {
		t.Error(len(list), len(rejects), err)
	}
}

// R5: what Encode returns is not changed by later calls, and Decode and All leave their bytes as they are.
func TestBytesStay(t *testing.T) {
	a, _ := Encode(data)
	b, _ := Encode(data)
	clear(b)
	_ = append(a, 1, 2, 3)
	if !bytes.Equal(a, unhex(dataBytes)) {
		t.Errorf("%x", a)
	}
	r, _ := Decode(a)
	list, _, _ := All(a)
	if !bytes.Equal(a, unhex(dataBytes)) {
		t.Errorf("%x", a)
	}
	clear(a)
	if r != data || !slices.Equal(list, []api.Record{data}) {
		t.Error(r, list)
	}
}
