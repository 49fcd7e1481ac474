package textual

import (
	"cmp"
	"fmt"
	"math"
	"math/rand"
	"regexp"
	"slices"
	"strconv"
	"strings"
	"testing"

	"billing/api"
	"billing/records"
	"billing/samples"
)

// call is the record of the chapter's first example.
func call() api.Record {
	return api.Record{Source: 1, Serial: 7, Kind: api.KindVoice, A: "4915", B: "4930", Start: 60, Units: 90}
}

// examples are records and their lines.
func examples() map[string]api.Record {
	part, last, in, out, both := call(), call(), call(), call(), call()
	part.Call, part.Part = 3, 2
	last.Call, last.Part, last.Last = 3, 2, true
	in.Trunk, in.Inbound = 5, true
	out.Trunk = 5
	both.Call, both.Part, both.Last, both.Trunk, both.Inbound = 999999999, 99, true, 999, true
	return map[string]api.Record{
		"v 1 7 4915 4930 60 90":                                    call(),
		"v 1 7 4915 4930 60 90 part 3 2":                           part,
		"v 1 7 4915 4930 60 90 part 3 2 last":                      last,
		"v 1 7 4915 4930 60 90 in 5":                               in,
		"v 1 7 4915 4930 60 90 out 5":                              out,
		"v 1 7 4915 4930 60 90 part 999999999 99 last in 999":      both,
		"t 99 999999999 0 00 12622780799 1099511627776":            {Source: 99, Serial: 999999999, Kind: api.KindText, A: "0", B: "00", Start: api.Forever - 1, Units: api.MaxUnits},
		"d 1 8 4915 - 0 1024":                                      {Source: 1, Serial: 8, Kind: api.KindData, A: "4915", Units: 1024},
		"d 1 8 4915 1 0 0":                                         {Source: 1, Serial: 8, Kind: api.KindData, A: "4915", B: "1"},
		"c 1 8 123456789012345 - 0 0 part 1 1 out 1":               {Source: 1, Serial: 8, Kind: api.KindContent, A: "123456789012345", Call: 1, Part: 1, Trunk: 1},
		"v 1 7 000000000000000 123456789012345 12622175999 604800": {Source: 1, Serial: 7, Kind: api.KindVoice, A: "000000000000000", B: "123456789012345", Start: 12622175999, Units: 604800},
	}
}

// modelLine returns the line of a valid record.
func modelLine(r api.Record) string {
	letter := map[int]string{api.KindVoice: "v", api.KindText: "t", api.KindData: "d", api.KindContent: "c"}[r.Kind]
	line := fmt.Sprintf("%s %d %d %s %s %d %d", letter, r.Source, r.Serial, r.A, cmp.Or(r.B, "-"), r.Start, r.Units)
	if r.Part != 0 {
		line += fmt.Sprintf(" part %d %d", r.Call, r.Part)
	}
	if r.Last {
		line += " last"
	}
	if r.Trunk != 0 {
		line += fmt.Sprintf(" %s %d", map[bool]string{true: "in", false: "out"}[r.Inbound], r.Trunk)
	}
	return line
}

// form is what a line that has the form of a record matches; N stands for a number word.
var form = regexp.MustCompile(strings.ReplaceAll(`^([vtdc]) (N) (N) ([^ ]+) ([^ ]+) (N) (N)(?: part (N) (N)( last)?)?(?: (in|out) (N))?$`, "N", "0|[1-9][0-9]{0,14}"))

// modelDecode decodes a line with a regular expression.
func modelDecode(line string) (api.Record, api.Errno) {
	m := form.FindStringSubmatch(line)
	if m == nil {
		return api.Record{}, api.ErrSyntax
	}
	n := func(i int) int { v, _ := strconv.Atoi(m[i]); return v }
	kinds := map[string]int{"v": api.KindVoice, "t": api.KindText, "d": api.KindData, "c": api.KindContent}
	r := api.Record{Kind: kinds[m[1]], Source: n(2), Serial: n(3), A: m[4], B: m[5], Start: n(6), Units: n(7), Call: n(8), Part: n(9), Last: m[10] != "", Inbound: m[11] == "in", Trunk: n(12)}
	if r.B == "-" {
		r.B = ""
	}
	err := records.Check(r)
	if err == api.OK && modelLine(r) != line {
		err = api.ErrSyntax
	}
	if err != api.OK {
		r = api.Record{}
	}
	return r, err
}

// P9.1, P9.2: the examples, in both directions.
func TestExamples(t *testing.T) {
	for line, r := range examples() {
		if got, err := Encode(r); got != line || err != api.OK {
			t.Errorf("Encode(%+v) = %q, %v, not %q", r, got, err, line)
		}
		if got, err := Decode(line); got != r || err != api.OK {
			t.Errorf("Decode(%q) = %+v, %v, not %+v", line, got, err, r)
		}
	}
}

// P9.1: the line of a valid record, and the error of one that is not. P9.5: Decode reverses Encode.
func TestEncode(t *testing.T) {
	rnd := rand.New(rand.NewSource(91))
	lines := map[string]api.Record{}
	for range 50000 {
		r := samples.Record(rnd.Intn)
		line, err := Encode(r)
		if want := records.Check(r); err != want || err != api.OK && line != "" {
			t.Fatalf("Encode(%+v) = %q, %v, not %v", r, line, err, want)
		}
		if err != api.OK {
			continue
		}
		if line != modelLine(r) {
			t.Fatalf("Encode(%+v) = %q, not %q", r, line, modelLine(r))
		}
		if got, err := Decode(line); got != r || err != api.OK {
			t.Fatalf("Decode(%q) = %+v, %v, not %+v", line, got, err, r)
		}
		if other, found := lines[line]; found && other != r {
			t.Fatalf("%+v and %+v have the same line", r, other)
		}
		lines[line] = r
	}
}

// P9.1: each of the errors of a record, with values of any size.
func TestEncodeErrors(t *testing.T) {
	for _, x := range []struct {
		change func(r *api.Record)
		want   api.Errno
	}{
		{func(r *api.Record) { *r = api.Record{} }, api.ErrRange},
		{func(r *api.Record) { r.Source = math.MinInt }, api.ErrRange},
		{func(r *api.Record) { r.Serial = api.MaxSerial + 1 }, api.ErrRange},
		{func(r *api.Record) { r.Kind = math.MaxInt }, api.ErrKind},
		{func(r *api.Record) { r.Kind = -1 }, api.ErrKind},
		{func(r *api.Record) { r.A = "-" }, api.ErrNumber},
		{func(r *api.Record) { r.B = "" }, api.ErrNumber},
		{func(r *api.Record) { r.B = "1 2" }, api.ErrNumber},
		{func(r *api.Record) { r.Start = math.MaxInt }, api.ErrTime},
		{func(r *api.Record) { r.Units = math.MaxInt }, api.ErrRange},
		{func(r *api.Record) { r.Start = api.Forever - 89 }, api.ErrTime},
		{func(r *api.Record) { r.Part = 100 }, api.ErrRange},
		{func(r *api.Record) { r.Call = 1 }, api.ErrInvalid},
		{func(r *api.Record) { r.Last = true }, api.ErrInvalid},
		{func(r *api.Record) { r.Trunk = 1000 }, api.ErrRange},
		{func(r *api.Record) { r.Inbound = true }, api.ErrInvalid},
	} {
		r := call()
		x.change(&r)
		if line, err := Encode(r); line != "" || err != x.want {
			t.Errorf("Encode(%+v) = %q, %v, not %v", r, line, err, x.want)
		}
	}
}

// P9.2: the errors of Decode, in their order, and the zero record beside them (R3).
func TestDecodeErrors(t *testing.T) {
	lines := map[api.Errno][]string{
		api.ErrSyntax: {
			// not the form of a record
			"", " ", "v", "v ", "x", "v 1 7 4915 4930 60", "v 1 7 4915 4930 60 ", "v 1 7 4915 4930 60 90 ", " v 1 7 4915 4930 60 90", "v  1 7 4915 4930 60 90",
			"v 1 7 4915 4930 60 90\n", "v\t1 7 4915 4930 60 90", "v 1 7 4915  60 90", "v 1 7  4930 60 90", "d 1 8 4915  0 1024", "v 1 7 4915 4930 60 90 91",
			"x 1 7 4915 4930 60 90", "V 1 7 4915 4930 60 90", "vt 1 7 4915 4930 60 90", "vtdc 1 7 4915 4930 60 90", "1 1 7 4915 4930 60 90", "\xff 1 7 4915 4930 60 90",
			"v 1 07 4915 4930 60 90", "v 01 7 4915 4930 60 90", "v 1 7 4915 4930 060 90", "v 1 7 4915 4930 60 00", "v 00 7 4915 4930 60 90", "v -1 7 4915 4930 60 90", "v +1 7 4915 4930 60 90",
			"v 1 7 4915 4930 -0 90", "v 1 7 4915 4930 6O 90", "v 1 7 4915 4930 0x1 90", "v 1 7 4915 4930 1_0 90", "v 1 7 4915 4930 6\xff 90", "v 1 7 4915 4930 \u0661 90",
			"v 1 7 4915 4930 60 1234567890123456", "v 1 7 4915 4930 60 18446744073709551706", "v 1000000000000000 7 4915 4930 60 90",
			"v 1 7 4915 4930 60 90 part", "v 1 7 4915 4930 60 90 part 3", "v 1 7 4915 4930 60 90 part 3 ", "v 1 7 4915 4930 60 90 part 3 2 3", "v 1 7 4915 4930 60 90 part 3 02",
			"v 1 7 4915 4930 60 90 part 3 2 last ", "v 1 7 4915 4930 60 90 part 3 2 last last", "v 1 7 4915 4930 60 90 part 3 2 Last", "v 1 7 4915 4930 60 90 last", "v 1 7 4915 4930 60 90 part last",
			"v 1 7 4915 4930 60 90 parts 3 2", "v 1 7 4915 4930 60 90 3 2", "v 1 7 4915 4930 60 90 in", "v 1 7 4915 4930 60 90 out", "v 1 7 4915 4930 60 90 out ", "v 1 7 4915 4930 60 90 in out 5",
			"v 1 7 4915 4930 60 90 in 5 out 5", "v 1 7 4915 4930 60 90 in 5 part 3 2", "v 1 7 4915 4930 60 90 in 5 5", "v 1 7 4915 4930 60 90 in 05", "v 1 7 4915 4930 60 90 IN 5", "v 1 7 4915 4930 60 90 part 3 2 in 5 last",
			// the form comes first
			"v 0 7 4915 4930 60 090", "x 0 7 4915 4930 60 90", "vt 0 7 4915 4930 60 90", "dc 0 7 4915 4930 60 90", "v 0 7 4915 4930 60 9:", "v 0 7 4915 4930 60 9/", "v 0 7 4915 4930 60 1234567890123456", "v 1 7 x y 60 90 in", "v 1 7 4915 - 60 90 ", "v 1 7 4915  60 90 in 0",
			// the record is valid, but has another line
			"v 1 7 4915 4930 60 90 out 0", "v 1 7 4915 4930 60 90 part 0 0", "v 1 7 4915 4930 60 90 part 0 0 in 5", "v 1 7 4915 4930 60 90 part 3 2 last out 0", "v 1 7 4915 4930 60 90 part 0 0 out 0",
		},
		api.ErrRange: {
			"v 0 7 4915 4930 60 90", "v 1 0 4915 4930 60 90", "v 100 7 4915 4930 60 90", "v 1 1000000000 4915 4930 60 90", "v 999999999999999 7 4915 4930 60 90", "v 1 7 4915 4930 60 604801", "t 1 7 4915 4930 60 1099511627777",
			"v 1 7 4915 4930 60 90 part 3 100", "v 1 7 4915 4930 60 90 part 1000000000 2", "v 1 7 4915 4930 60 90 in 1000", "v 1 7 4915 4930 60 90 part 0 100", "v 0 7 - - 60 90", "v 0 7 4915 4930 60 90 out 0",
		},
		api.ErrNumber: {
			"v 1 7 4915 - 60 90", "t 1 7 4915 - 60 90", "v 1 7 - 4930 60 90", "d 1 7 - - 60 90", "d 1 7 4915 -- 60 90", "v 1 7 4915 49x 60 90", "v 1 7 4915 49\n30 60 90", "v 1 7 +4915 4930 60 90", "v 1 7 1234567890123456 4930 60 90",
			"v 1 7 \xff 4930 60 90", "v 1 7 4915 \u0661 60 90", "v 1 7 4915 - 60 90 out 0", "v 1 7 part in 999999999999999 90",
		},
		api.ErrTime:    {"v 1 7 4915 4930 12622780800 0", "v 1 7 4915 4930 999999999999999 90", "v 1 7 4915 4930 12622780711 90", "v 1 7 4915 4930 12622780799 2 part 0 0"},
		api.ErrInvalid: {"v 1 7 4915 4930 60 90 in 0", "v 1 7 4915 4930 60 90 part 0 2", "v 1 7 4915 4930 60 90 part 3 0", "v 1 7 4915 4930 60 90 part 0 0 last", "v 1 7 4915 4930 60 90 part 3 0 out 0", "v 1 7 4915 4930 60 90 part 0 0 in 0"},
	}
	for want, list := range lines {
		for _, line := range list {
			if r, err := Decode(line); r != (api.Record{}) || err != want {
				t.Errorf("Decode(%q) = %+v, %v, not %v", line, r, err, want)
			}
		}
	}
}

// randomLine returns a line of words that occur in lines, mostly in their places.
func randomLine(rnd *rand.Rand) string {
	some := []string{"v", "t", "d", "c", "0", "1", "5", "99", "100", "07", "4915", "-", "part", "last", "in", "out", "", "\xff", "999999999999999", "1000000000000000"}
	var words []string
	line, err := Encode(samples.Record(rnd.Intn))
	if err == api.OK {
		words = strings.Split(line, " ")
	}
	for range rnd.Intn(3) {
		from := rnd.Intn(len(words) + 1)
		end := min(len(words), from+rnd.Intn(3))
		var other []string
		for range rnd.Intn(3) {
			other = append(other, some[rnd.Intn(len(some))])
		}
		words = slices.Replace(words, from, end, other...)
	}
	return strings.Join(words, " ")
}

// P9.2, P9.5: Decode against the model, for lines with changed words and for lines with changed bytes; Encode reverses it.
func TestDecodeAgainstModel(t *testing.T) {
	rnd := rand.New(rand.NewSource(92))
	accepted := 0
	for range 200000 {
		b := []byte(randomLine(rnd))
		if len(b) > 0 && rnd.Intn(4) == 0 {
			b[rnd.Intn(len(b))] = " 0vp-\n\xc3\xa9"[rnd.Intn(8)]
		}
		line := string(b)
		r, err := Decode(line)
		if want, e := modelDecode(line); r != want || err != e {
			t.Fatalf("Decode(%q) = %+v, %v, not %+v, %v", line, r, err, want, e)
		}
		if err != api.OK {
			continue
		}
		accepted++
		if back, err := Encode(r); back != line || err != api.OK {
			t.Fatalf("Encode of Decode of %q = %q, %v", line, back, err)
		}
	}
	if accepted < 10000 {
		t.Error("only", accepted)
	}
}

// P9.3: the lines of strings, also of bytes that are no text.
func TestLines(t *testing.T) {
	for _, x := range []struct {
		s    string
		want []string
	}{
		{"", nil}, {"\n", []string{""}}, {"a\n", []string{"a"}}, {"\n\n", []string{"", ""}}, {"a\n\nb c\n", []string{"a", "", "b c"}}, {"a\r\n", []string{"a\r"}},
		{"\xff\n\xc3\n", []string{"\xff", "\xc3"}}, {"\u2028\u0085\n\u010a\n", []string{"\u2028\u0085", "\u010a"}}, {"\x00\n", []string{"\x00"}},
		{strings.Repeat("\n", api.MaxRecords), make([]string, api.MaxRecords)}, {strings.Repeat("x\n", api.MaxRecords), slices.Repeat([]string{"x"}, api.MaxRecords)},
	} {
		if list, err := Lines(x.s); !slices.Equal(list, x.want) || err != api.OK {
			t.Errorf("Lines(%.20q) = %.20q, %v", x.s, list, err)
		}
	}
	rnd := rand.New(rand.NewSource(93))
	for range 5000 {
		var want []string
		for range rnd.Intn(10) {
			b := make([]byte, rnd.Intn(5))
			rnd.Read(b)
			want = append(want, strings.ReplaceAll(string(b), "\n", " "))
		}
		s := strings.Join(append(slices.Clone(want), ""), "\n")
		if list, err := Lines(s); !slices.Equal(list, want) || err != api.OK {
			t.Fatalf("Lines(%q) = %q, %v", s, list, err)
		}
	}
}

// P9.3, P9.4: the errors of Lines, which are also those of All.
func TestLinesErrors(t *testing.T) {
	many := strings.Repeat("\n", api.MaxRecords)
	valid := strings.Repeat("v 1 7 4915 4930 60 90\n", api.MaxRecords)
	for s, want := range map[string]api.Errno{
		"a": api.ErrSyntax, " ": api.ErrSyntax, "\na": api.ErrSyntax, "a\nb": api.ErrSyntax, "a\n\r": api.ErrSyntax, "v 1 7 4915 4930 60 90": api.ErrSyntax, "\x00": api.ErrSyntax, "\u010a": api.ErrSyntax,
		many + "a": api.ErrSyntax, many + many + "a": api.ErrSyntax, valid + "a": api.ErrSyntax, valid + valid + "a": api.ErrSyntax,
		many + "\n": api.ErrTooLong, many + "a\n": api.ErrTooLong, many + many: api.ErrTooLong, valid + "\n": api.ErrTooLong, valid + valid: api.ErrTooLong, strings.Repeat("\n", 1<<25): api.ErrTooLong,
	} {
		if list, err := Lines(s); len(list) != 0 || err != want {
			t.Errorf("Lines of %d bytes: %d, %v, not %v", len(s), len(list), err, want)
		}
		if list, rejects, err := All(s); len(list)+len(rejects) != 0 || err != want {
			t.Errorf("All of %d bytes: %d, %d, %v, not %v", len(s), len(list), len(rejects), err, want)
		}
	}
}

// P9.4: All returns the record or the reject of each line.
func TestAll(t *testing.T) {
	list, rejects, err := All("x\nv 1 7 4915 4930 60 90\n\nd 1 8 4915 - 0 1024\nv 0 7 4915 4930 60 90\nv 1 7 4915 - 60 90\nv 1 7 4915 4930 60 90\n")
	data := api.Record{Source: 1, Serial: 8, Kind: api.KindData, A: "4915", Units: 1024}
	if !slices.Equal(list, []api.Record{call(), data, call()}) || err != api.OK {
		t.Error(list, err)
	}
	if want := []api.Reject{{Index: 0, Err: api.ErrSyntax}, {Index: 2, Err: api.ErrSyntax}, {Index: 4, Err: api.ErrRange}, {Index: 5, Err: api.ErrNumber}}; !slices.Equal(rejects, want) {
		t.Error(rejects, want)
	}
	if list, rejects, err := All(""); len(list)+len(rejects) != 0 || err != api.OK {
		t.Error(list, rejects, err)
	}
	rnd := rand.New(rand.NewSource(94))
	for range 2000 {
		var s string
		var want []api.Record
		var refused []api.Reject
		for i := range rnd.Intn(20) {
			line := randomLine(rnd)
			s += line + "\n"
			if r, err := modelDecode(line); err == api.OK {
				want = append(want, r)
			} else {
				refused = append(refused, api.Reject{Index: i, Err: err})
			}
		}
		if list, rejects, err := All(s); !slices.Equal(list, want) || !slices.Equal(rejects, refused) || err != api.OK {
			t.Fatalf("All(%q) = %+v, %v, %v, not %+v, %v", s, list, rejects, err, want, refused)
		}
	}
}

// P9.6: All of the lines of as many valid records as there may be returns these records.
func TestAllOfLines(t *testing.T) {
	rnd := rand.New(rand.NewSource(96))
	for _, n := range []int{0, 1, 2, 100, api.MaxRecords} {
		var want []api.Record
		var s strings.Builder
		for len(want) < n {
			r := samples.Record(rnd.Intn)
			line, err := Encode(r)
			if err == api.OK {
				want = append(want, r)
				s.WriteString(line + "\n")
			}
		}
		if list, rejects, err := All(s.String()); !slices.Equal(list, want) || len(rejects) != 0 || err != api.OK {
			t.Errorf("All of %d lines: %d records, %v, %v", n, len(list), rejects, err)
		}
		lines, err := Lines(s.String())
		if len(lines) != n || err != api.OK {
			t.Errorf("%d lines, %v, not %d", len(lines), err, n)
		}
	}
}

// P9.4, P9.6: all lines may be rejected; records and rejects add up to the lines.
func TestAllRejected(t *testing.T) {
	list, rejects, err := All(strings.Repeat("v 1 7 4915 4930 60 90 in 0\n", api.MaxRecords))
	if len(list) != 0 || len(rejects) != api.MaxRecords || err != api.OK {
		t.Fatal(len(list), len(rejects), err)
	}
	for i, r := range rejects {
		if r != (api.Reject{Index: i, Err: api.ErrInvalid}) {
			t.Fatal(i, r)
		}
	}
}

// R1: a line of very many words, or of one very long word, is refused like others.
func TestLongLines(t *testing.T) {
	for _, line := range []string{strings.Repeat(" ", 1<<25), strings.Repeat("1 ", 1<<22), "v 1 7 4915 4930 60 " + strings.Repeat("9", 1<<22), strings.Repeat("v", 1<<22)} {
		if r, err := Decode(line); r != (api.Record{}) || err != api.ErrSyntax {
			t.Error(len(line), r, err)
		}
	}
	if r, err := Decode("v 1 7 " + strings.Repeat("9", 1<<22) + " 4930 60 90"); r != (api.Record{}) || err != api.ErrNumber {
		t.Error(r, err)
	}
}
