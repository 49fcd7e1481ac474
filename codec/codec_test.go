package codec

import (
	"bytes"
	"math"
	"math/big"
	"math/rand"
	"slices"
	"strings"
	"testing"

	"billing/api"
)

// modelNumber returns the bytes of a number, computed with big numbers as the chapter defines them.
func modelNumber(n int) []byte {
	u := new(big.Int).Mul(big.NewInt(int64(n)), big.NewInt(2))
	if n < 0 {
		u.Neg(u).Sub(u, big.NewInt(1))
	}
	var b []byte
	for {
		group := new(big.Int)
		u.DivMod(u, big.NewInt(128), group)
		if u.Sign() == 0 {
			return append(b, byte(group.Int64()))
		}
		b = append(b, byte(group.Int64()+128))
	}
}

// modelText returns the bytes of a text.
func modelText(s string) []byte { return append(modelNumber(len(s)), s...) }

// modelNumbers returns the bytes of a list of numbers.
func modelNumbers(list []int) []byte {
	b := modelNumber(len(list))
	for _, n := range list {
		b = append(b, modelNumber(n)...)
	}
	return b
}

// modelFields returns the bytes of the fields of a record.
func modelFields(r api.Record) [][]byte {
	truth := map[bool]int{true: 1}
	return [][]byte{
		modelNumber(r.Source), modelNumber(r.Serial), modelNumber(r.Kind), modelText(r.A), modelText(r.B), modelNumber(r.Start), modelNumber(r.Units),
		modelNumber(r.Call), modelNumber(r.Part), modelNumber(truth[r.Last]), modelNumber(r.Trunk), modelNumber(truth[r.Inbound]),
	}
}

// modelDecode finds the bytes of a number at the beginning of b, byte by byte.
func modelDecode(b []byte) (int, []byte, api.Errno) {
	for i := range 10 {
		switch {
		case i == len(b):
			return 0, nil, api.ErrTruncated
		case i == 9 && b[9] != 1, i > 0 && b[i] == 0:
			return 0, nil, api.ErrSyntax
		case b[i] < 128:
			return modelValue(b[:i+1]), b[i+1:], api.OK
		}
	}
	panic("a tenth byte is the last one")
}

// modelValue returns the number with these bytes.
func modelValue(b []byte) int {
	u := new(big.Int)
	for _, x := range slices.Backward(b) {
		u.Mul(u, big.NewInt(128)).Add(u, big.NewInt(int64(x%128)))
	}
	odd := u.Bit(0) == 1
	if odd {
		u.Add(u, big.NewInt(1)).Neg(u)
	}
	return int(u.Quo(u, big.NewInt(2)).Int64())
}

// someNumbers are numbers of all lengths of bytes, with their neighbours.
func someNumbers() []int {
	list := []int{math.MinInt, math.MinInt + 1, math.MaxInt, math.MaxInt - 1}
	for i := range 63 {
		for d := -2; d <= 2; d++ {
			list = append(list, 1<<i+d, -1<<i+d)
		}
	}
	return list
}

// randomNumber returns a number of any size.
func randomNumber(rnd *rand.Rand) int { return int(rnd.Uint64()) >> rnd.Intn(64) }

// randomRecord returns a record that is hardly ever valid.
func randomRecord(rnd *rand.Rand) api.Record {
	n := func() int { return randomNumber(rnd) }
	text := func() string {
		b := make([]byte, rnd.Intn(150))
		rnd.Read(b)
		return string(b)
	}
	return api.Record{Source: n(), Serial: n(), Kind: n(), A: text(), B: text(), Start: n(), Units: n(), Call: n(), Part: n(), Last: n() > 0, Trunk: n(), Inbound: n() > 0}
}

// P7.1: the bytes of numbers, in front of which PutNumber leaves what was there.
func TestPutNumber(t *testing.T) {
	examples := map[int][]byte{0: {0}, 1: {2}, -1: {1}, 63: {126}, -64: {127}, 64: {128, 1}, -65: {129, 1}, 8191: {254, 127}, 8192: {128, 128, 1}}
	for n, want := range examples {
		if b := PutNumber(nil, n); !bytes.Equal(b, want) {
			t.Errorf("PutNumber(%d) = %v, not %v", n, b, want)
		}
	}
	for _, n := range someNumbers() {
		want := append([]byte{7, 0, 200}, modelNumber(n)...)
		if b := PutNumber([]byte{7, 0, 200}, n); !bytes.Equal(b, want) || len(b) > 13 {
			t.Errorf("PutNumber(%d) = %v, not %v", n, b, want)
		}
	}
}

// P7.1: Number returns the number at the beginning, and the remaining bytes.
func TestNumber(t *testing.T) {
	for _, n := range someNumbers() {
		for _, behind := range [][]byte{nil, {0, 128}} {
			m, rest, err := Number(append(modelNumber(n), behind...))
			if m != n || !bytes.Equal(rest, behind) || err != api.OK {
				t.Errorf("Number of the bytes of %d = %d, %v, %v", n, m, rest, err)
			}
		}
	}
}

// nines returns nine bytes 255 and the given ones.
func nines(b ...byte) []byte { return append(bytes.Repeat([]byte{255}, 9), b...) }

// badNumbers are bytes at whose beginning there is no number.
func badNumbers() map[string]api.Errno {
	return map[string]api.Errno{
		"": api.ErrTruncated, "\x80": api.ErrTruncated, "\xff\x80": api.ErrTruncated, string(nines()): api.ErrTruncated,
		"\x80\x00": api.ErrSyntax, "\x80\x00\x01": api.ErrSyntax, "\xff\x80\x80\x00": api.ErrSyntax, string(nines()[1:]) + "\x00": api.ErrSyntax,
		string(nines(0)): api.ErrSyntax, string(nines(2)): api.ErrSyntax, string(nines(127)): api.ErrSyntax, string(nines(128)): api.ErrSyntax,
		string(nines(129)): api.ErrSyntax, string(nines(129, 1)): api.ErrSyntax, string(nines(255, 255, 1)): api.ErrSyntax,
	}
}

// P7.1: the errors of Number, and the zero values beside them (R3).
func TestNumberErrors(t *testing.T) {
	for s, want := range badNumbers() {
		if n, rest, err := Number([]byte(s)); n != 0 || len(rest) != 0 || err != want {
			t.Errorf("Number(%v) = %d, %v, %v, not %v", []byte(s), n, rest, err, want)
		}
	}
}

// P7.1, P7.6: Number of all sequences of up to two bytes and of random ones, against the model.
func TestNumberAgainstModel(t *testing.T) {
	check := func(b []byte) {
		n, rest, err := Number(b)
		m, behind, want := modelDecode(b)
		if n != m || !bytes.Equal(rest, behind) || err != want {
			t.Fatalf("Number(%v) = %d, %v, %v, not %d, %v, %v", b, n, rest, err, m, behind, want)
		}
		if err == api.OK && !bytes.Equal(append(PutNumber(nil, n), rest...), b) {
			t.Fatalf("%v are not the bytes of %d and %v", b, n, rest)
		}
	}
	for i := range 1 << 16 {
		check([]byte{byte(i)})
		check([]byte{byte(i), byte(i >> 8)})
	}
	rnd := rand.New(rand.NewSource(71))
	some := []byte{0, 1, 2, 127, 128, 129, 255}
	for range 20000 {
		b := make([]byte, rnd.Intn(13))
		for i := range b {
			b[i] = some[rnd.Intn(len(some))] | byte(rnd.Intn(4)/3*128)
		}
		check(b)
		check(append(nines()[:min(9, len(b))], b...))
	}
}

// P7.2: the bytes of texts, of any bytes and any length.
func TestPutText(t *testing.T) {
	for _, s := range []string{"", "ab", "\x00\xff\x80", "é", strings.Repeat("x", 63), strings.Repeat("x", 64), strings.Repeat("y", 8192), strings.Repeat("z", api.MaxFrame+5)} {
		want := append([]byte{9}, modelText(s)...)
		if b := PutText([]byte{9}, s); !bytes.Equal(b, want) {
			t.Errorf("PutText of %d bytes has %d bytes, not %d", len(s), len(b), len(want))
		}
	}
	if b := PutText(nil, "ab"); !bytes.Equal(b, []byte{4, 97, 98}) {
		t.Error(b)
	}
}

// P7.2: Text returns the text at the beginning, also the longest one, and the remaining bytes.
func TestText(t *testing.T) {
	for _, s := range []string{"", "a", "ab", "\x00\xff\x80", strings.Repeat("x", 64), strings.Repeat("z", api.MaxFrame)} {
		for _, behind := range [][]byte{nil, {6, 0}} {
			got, rest, err := Text(append(modelText(s), behind...))
			if got != s || !bytes.Equal(rest, behind) || err != api.OK {
				t.Errorf("Text of %d bytes: %d bytes, %v, %v", len(s), len(got), rest, err)
			}
		}
	}
}

// badLengths are bytes at whose beginning there is no length.
func badLengths() map[string]api.Errno {
	bad := badNumbers()
	for n, want := range map[int]api.Errno{-1: api.ErrSyntax, -64: api.ErrSyntax, math.MinInt: api.ErrSyntax, api.MaxFrame + 1: api.ErrTooLong, math.MaxInt: api.ErrTooLong} {
		bad[string(modelNumber(n))] = want
		bad[string(modelNumber(n))+"aa"] = want
	}
	return bad
}

// P7.2: the errors of Text.
func TestTextErrors(t *testing.T) {
	bad := badLengths()
	bad["\x02"], bad["\x04a"], bad["\x80\x01aaa"] = api.ErrTruncated, api.ErrTruncated, api.ErrTruncated
	bad[string(modelNumber(api.MaxFrame))] = api.ErrTruncated
	bad[string(modelText(strings.Repeat("x", api.MaxFrame)))[:api.MaxFrame]] = api.ErrTruncated
	bad[string(modelText(strings.Repeat("x", api.MaxFrame+1)))] = api.ErrTooLong
	for s, want := range bad {
		if got, rest, err := Text([]byte(s)); got != "" || len(rest) != 0 || err != want {
			t.Errorf("Text(%.20q) = %.20q, %v, %v, not %v", s, got, rest, err, want)
		}
	}
}

// P7.3: the bytes of lists, and the list at the beginning, up to the longest one.
func TestNumbers(t *testing.T) {
	for _, list := range [][]int{nil, {}, {0}, {1, -1}, {64, 0, -65, math.MinInt, math.MaxInt}, make([]int, 64), someNumbers(), make([]int, api.MaxFrame)} {
		want := append([]byte{9}, modelNumbers(list)...)
		if b := PutNumbers([]byte{9}, list); !bytes.Equal(b, want) {
			t.Errorf("PutNumbers of %d numbers has %d bytes, not %d", len(list), len(b), len(want))
		}
		for _, behind := range [][]byte{nil, {6, 0}} {
			got, rest, err := Numbers(append(want[1:], behind...))
			if !slices.Equal(got, list) || !bytes.Equal(rest, behind) || err != api.OK {
				t.Errorf("Numbers of %d numbers: %d numbers, %v, %v", len(list), len(got), rest, err)
			}
		}
	}
	if b := PutNumbers(nil, []int{1, -1}); !bytes.Equal(b, []byte{4, 2, 1}) {
		t.Error(b)
	}
	long := make([]int, api.MaxFrame+1)
	if b := PutNumbers(nil, long); !bytes.Equal(b, modelNumbers(long)) {
		t.Error(len(b))
	}
}

// P7.3: the errors of Numbers: those of the length, then those of the elements from the first one on.
func TestNumbersErrors(t *testing.T) {
	bad := badLengths()
	bad["\x02"], bad["\x04\x02"], bad["\x04\x02\x80"] = api.ErrTruncated, api.ErrTruncated, api.ErrTruncated
	bad["\x04\x80\x00"], bad["\x04\x00\x80\x00"], bad["\x06\x00\x80\x00"] = api.ErrSyntax, api.ErrSyntax, api.ErrSyntax
	bad["\x02"+string(nines(3))] = api.ErrSyntax
	bad["\x02"+string(nines())] = api.ErrTruncated
	bad[string(modelNumber(api.MaxFrame))+"\x00\x80\x00"] = api.ErrSyntax
	bad[string(modelNumbers(make([]int, api.MaxFrame+1)))] = api.ErrTooLong
	for s, want := range bad {
		if list, rest, err := Numbers([]byte(s)); len(list) != 0 || len(rest) != 0 || err != want {
			t.Errorf("Numbers(%.20q) = %d numbers, %v, %v, not %v", s, len(list), rest, err, want)
		}
	}
}

// P7.4: the bytes of a record are those of its fields in their order.
func TestPutRecord(t *testing.T) {
	rnd := rand.New(rand.NewSource(74))
	r := api.Record{Source: 1, Serial: 2, Kind: 3, A: "49", B: "1", Start: 4, Units: 5, Call: 6, Part: 7, Last: true, Trunk: 8}
	want := []byte{2, 4, 6, 4, '4', '9', 2, '1', 8, 10, 12, 14, 2, 16, 0}
	if b := PutRecord([]byte{}, r); !bytes.Equal(b, want) {
		t.Error(b, want)
	}
	if b := PutRecord(nil, api.Record{}); !bytes.Equal(b, make([]byte, 12)) {
		t.Error(b)
	}
	for range 500 {
		r := randomRecord(rnd)
		want := append([]byte{5, 6}, bytes.Join(modelFields(r), nil)...)
		if b := PutRecord([]byte{5, 6}, r); !bytes.Equal(b, want) {
			t.Fatalf("PutRecord(%+v) = %v, not %v", r, b, want)
		}
	}
}

// P7.4, P7.5: Record returns the record, valid or not, and the remaining bytes.
func TestRecord(t *testing.T) {
	rnd := rand.New(rand.NewSource(75))
	for i := range 500 {
		r := randomRecord(rnd)
		if i == 0 {
			r = api.Record{}
		}
		for _, behind := range [][]byte{nil, {0, 255}} {
			got, rest, err := Record(append(bytes.Join(modelFields(r), nil), behind...))
			if got != r || !bytes.Equal(rest, behind) || err != api.OK {
				t.Fatalf("Record of the bytes of %+v = %+v, %v, %v", r, got, rest, err)
			}
		}
	}
}

// badFields are bytes that are no field of a record at a position: a number, a text or a boolean.
func badFields(field int) map[string]api.Errno {
	switch field {
	case 3, 4:
		bad := badLengths()
		delete(bad, "") // what follows would be the field
		for s, err := range bad {
			if err == api.ErrTruncated {
				delete(bad, s)
			}
		}
		return bad
	case 9, 11:
		return map[string]api.Errno{"\x04": api.ErrSyntax, "\x01": api.ErrSyntax, "\x03": api.ErrSyntax, "\x80\x01": api.ErrSyntax, "\x82\x00": api.ErrSyntax}
	}
	return map[string]api.Errno{"\x80\x00": api.ErrSyntax, string(nines(2)): api.ErrSyntax}
}

// P7.4: the first field with an error determines the error, whatever follows.
func TestRecordErrors(t *testing.T) {
	r := api.Record{Source: 1, Serial: 64, Kind: 3, A: "49", B: "123", Start: 400, Units: 5, Call: 6, Part: 7, Last: true, Trunk: 8, Inbound: true}
	for i := range modelFields(r) {
		for s, want := range badFields(i) {
			fields := modelFields(r)
			fields[i] = []byte(s)
			for j := i + 1; j <= len(fields); j++ { // field j is one, too, or is missing
				for _, behind := range []string{"", "\x80\x00", "\x01", "\xff\xff\xff\xff\x01"} {
					b := append(bytes.Join(fields[:j], nil), behind...)
					if got, rest, err := Record(b); got != (api.Record{}) || len(rest) != 0 || err != want {
						t.Errorf("field %d is %q: Record = %+v, %v, %v, not %v", i, s, got, rest, err, want)
					}
				}
			}
		}
	}
}

// P7.6: whatever Record, Text and Numbers accept has exactly the bytes in front of the remaining ones.
func TestOneForm(t *testing.T) {
	rnd := rand.New(rand.NewSource(76))
	some := []byte{0, 1, 2, 4, 6, 128, 130, 'a'}
	accepted := 0
	for range 100000 {
		b := make([]byte, rnd.Intn(24))
		for i := range b {
			b[i] = some[rnd.Intn(len(some))]
		}
		if r, rest, err := Record(b); err == api.OK {
			accepted++
			if !bytes.Equal(append(bytes.Join(modelFields(r), nil), rest...), b) {
				t.Fatal(b, r, rest)
			}
		}
		if s, rest, err := Text(b); err == api.OK && !bytes.Equal(append(modelText(s), rest...), b) {
			t.Fatal(b, s, rest)
		}
		if list, rest, err := Numbers(b); err == api.OK && !bytes.Equal(append(modelNumbers(list), rest...), b) {
			t.Fatal(b, list, rest)
		}
	}
	if accepted < 100 {
		t.Error("only", accepted, "records")
	}
}

// P7.6: a part of the bytes of a number, a text, a list or a record is ErrTruncated.
func TestTruncated(t *testing.T) {
	rnd := rand.New(rand.NewSource(77))
	for range 100 {
		r := randomRecord(rnd)
		list := []int{r.Source, r.Serial, r.Start}
		for b := PutRecord(nil, r); len(b) > 0; {
			b = b[:len(b)-1]
			if got, rest, err := Record(b); got != (api.Record{}) || len(rest) != 0 || err != api.ErrTruncated {
				t.Fatal(b, got, rest, err)
			}
		}
		for b := PutNumber(nil, r.Serial); len(b) > 0; {
			b = b[:len(b)-1]
			if _, _, err := Number(b); err != api.ErrTruncated {
				t.Fatal(b, err)
			}
		}
		for b := PutText(nil, r.A); len(b) > 0; {
			b = b[:len(b)-1]
			if _, _, err := Text(b); err != api.ErrTruncated {
				t.Fatal(b, err)
			}
		}
		for b := PutNumbers(nil, list); len(b) > 0; {
			b = b[:len(b)-1]
			if _, _, err := Numbers(b); err != api.ErrTruncated {
				t.Fatal(b, err)
			}
		}
	}
}

// R5: what is encoded goes to new memory, and not into the spare capacity of the argument.
func TestPutIsNewMemory(t *testing.T) {
	puts := map[string]func(b []byte) []byte{
		"PutNumber":        func(b []byte) []byte { return PutNumber(b, 300) },
		"PutText":          func(b []byte) []byte { return PutText(b, "abc") },
		"PutText, none":    func(b []byte) []byte { return PutText(b, "") },
		"PutNumbers":       func(b []byte) []byte { return PutNumbers(b, []int{1, 2}) },
		"PutNumbers, none": func(b []byte) []byte { return PutNumbers(b, nil) },
		"PutRecord":        func(b []byte) []byte { return PutRecord(b, api.Record{A: "49"}) },
	}
	for name, put := range puts {
		memory := bytes.Repeat([]byte{77}, 100)
		before := slices.Clone(memory)
		out := put(memory[:5])
		if !bytes.Equal(memory, before) {
			t.Errorf("%s changed its argument: %v", name, memory)
		}
		want := slices.Clone(out)
		clear(memory)
		if !bytes.Equal(out, want) {
			t.Errorf("%s shares memory with its argument", name)
		}
	}
}

// R5: what is decoded, and the remaining bytes, are new memory.
func TestDecodedIsNewMemory(t *testing.T) {
	gets := map[string]func(b []byte) ([]byte, api.Errno){
		"Number":  func(b []byte) ([]byte, api.Errno) { _, rest, err := Number(b); return rest, err },
		"Text":    func(b []byte) ([]byte, api.Errno) { _, rest, err := Text(b); return rest, err },
		"Numbers": func(b []byte) ([]byte, api.Errno) { _, rest, err := Numbers(b); return rest, err },
		"Record":  func(b []byte) ([]byte, api.Errno) { _, rest, err := Record(b); return rest, err },
	}
	for name, get := range gets {
		b := append(make([]byte, 0, 100), bytes.Repeat([]byte{2}, 40)...)
		rest, err := get(b)
		if err != api.OK || !bytes.Equal(b, bytes.Repeat([]byte{2}, 40)) {
			t.Errorf("%s: %v, %v", name, err, b)
		}
		want := slices.Clone(rest)
		clear(b)
		if len(rest) == 0 || !bytes.Equal(rest, want) {
			t.Errorf("%s shares memory with its argument", name)
		}
		clear(rest)
		_ = append(rest, 9)
		if !bytes.Equal(b[:cap(b)], make([]byte, 100)) {
			t.Errorf("%s: the remaining bytes share memory with the argument", name)
		}
	}
}
