package intake

import (
	"math"
	"math/rand"
	"slices"
	"testing"

	"billing/api"
	"billing/batch"
	"billing/correlate"
	"billing/dedup"
)

// identity is a source and a serial number.
type identity struct{ source, serial int }

// model is a state of the intake that takes records one by one.
type model struct {
	seen  map[identity]bool
	open  []api.Record
	heads []api.Head
}

// next returns the next number of a source.
func (m *model) next(source int) int {
	n := 1
	for _, h := range m.heads {
		if h.Source == source {
			n = h.Number + 1
		}
	}
	return n
}

// accept takes a batch as the chapter says it.
func (m *model) accept(b api.Batch, w api.Window) (wholes []api.Record, rejects []api.Reject, err api.Errno) {
	if err := batch.Check(b); err != api.OK {
		return nil, nil, err
	}
	if b.Number != m.next(b.Source) {
		return nil, nil, api.ErrSequence
	}
	for i, r := range b.Records {
		id := identity{r.Source, r.Serial}
		if r.Start < w.Earliest || r.Start > w.Latest {
			rejects = append(rejects, api.Reject{Source: r.Source, Serial: r.Serial, Index: i, Err: api.ErrTime})
			continue
		}
		if m.seen[id] {
			rejects = append(rejects, api.Reject{Source: r.Source, Serial: r.Serial, Index: i, Err: api.ErrDuplicate})
			continue
		}
		m.seen[id] = true
		some, open := correlate.Join(m.open, []api.Record{r})
		wholes, m.open = append(wholes, some...), open
	}
	m.heads = append(m.heads, api.Head{Source: b.Source, Number: b.Number, Format: b.Format, Count: len(b.Records)})
	return wholes, rejects, api.OK
}

// state returns the state of the model.
func (m *model) state() api.Intake {
	in := api.Intake{Open: m.open, Heads: m.heads}
	for id := range m.seen {
		in.Seen, _ = dedup.Add(in.Seen, id.source, id.serial)
	}
	return in
}

// same reports whether two states have the same elements.
func same(a, b api.Intake) bool {
	return slices.Equal(a.Seen, b.Seen) && slices.Equal(a.Open, b.Open) && slices.Equal(a.Heads, b.Heads)
}

// spare returns a copy of a list with spare capacity.
func spare[T any](list []T, mark T) []T {
	return append(slices.Clone(list), mark, mark)[:len(list)]
}

// given returns a copy of a state whose lists have spare capacity.
func given(in api.Intake) api.Intake {
	return api.Intake{Seen: spare(in.Seen, api.Range{Source: -7}), Open: spare(in.Open, api.Record{Source: -7}), Heads: spare(in.Heads, api.Head{Source: -7})}
}

// unchanged reports whether a state that given has returned is as it was, with the spare capacity of its lists.
func unchanged(in, original api.Intake) bool {
	return same(in, original) && in.Seen[:len(in.Seen)+1][len(in.Seen)].Source == -7 && in.Open[:len(in.Open)+1][len(in.Open)].Source == -7 && in.Heads[:len(in.Heads)+1][len(in.Heads)].Source == -7
}

// erase overwrites the memory of a state.
func erase(in api.Intake) {
	clear(in.Seen[:cap(in.Seen)])
	clear(in.Open[:cap(in.Open)])
	clear(in.Heads[:cap(in.Heads)])
}

// record is a record of a source.
func record(source, serial, start, units int) api.Record {
	return api.Record{Source: source, Serial: serial, Kind: api.KindVoice, A: "1", B: "2", Start: start, Units: units}
}

// part is a part of the call 7 of source 1.
func part(serial, number int, last bool) api.Record {
	r := record(1, serial, 0, 10)
	r.Call, r.Part, r.Last = 7, number, last
	return r
}

// file is a batch of source 1.
func file(number int, list ...api.Record) api.Batch {
	return api.Batch{Source: 1, Number: number, Format: api.FormatText, Records: list}
}

// always is a window that contains all instants.
var always = api.Window{Earliest: 0, Latest: api.Forever}

// someBatch returns a batch with the next number of its source, or, seldom, another one, or with an error.
func someBatch(rnd *rand.Rand, m *model) api.Batch {
	source := 1 + rnd.Intn(3)
	b := api.Batch{Source: source, Number: m.next(source), Format: 1 + rnd.Intn(3)}
	for range rnd.Intn(12) {
		r := record(source, 1+rnd.Intn(60), rnd.Intn(10), rnd.Intn(100))
		if rnd.Intn(3) > 0 {
			r.Call, r.Part, r.Last = 1+rnd.Intn(2), 1+rnd.Intn(3), rnd.Intn(3) == 0
		}
		if rnd.Intn(4) == 0 {
			r.Kind = api.KindContent
		}
		b.Records = append(b.Records, r)
	}
	switch rnd.Intn(30) {
	case 0:
		b.Number += rnd.Intn(5) - 2
	case 1:
		b.Format = 4
	case 2:
		b.Records = append(b.Records, record(source, 0, 0, 0))
	case 3:
		b.Records = append(b.Records, record(source+1, 1, 0, 0))
	}
	return b
}

// balanced reports whether the units of a batch and of the parts that were open are those of the rejected records, of the whole ones, and of the parts that are open now.
func balanced(before, after api.Intake, b api.Batch, wholes []api.Record, rejects []api.Reject) bool {
	var rejected []api.Record
	for _, r := range rejects {
		rejected = append(rejected, b.Records[r.Index])
	}
	return correlate.Units(slices.Concat(before.Open, b.Records)) == correlate.Units(slices.Concat(rejected, wholes, after.Open))
}

// testAccept compares Accept with the model, and tests what is promised for every result (P16.5, P16.7 and R5).
func testAccept(t *testing.T, in api.Intake, m *model, b api.Batch, w api.Window) api.Errno {
	t.Helper()
	state, list := given(in), spare(b.Records, api.Record{Source: -7})
	next, wholes, rejects, err := Accept(state, api.Batch{Source: b.Source, Number: b.Number, Format: b.Format, Records: list}, w)
	wantWholes, wantRejects, wantErr := m.accept(b, w)
	want := m.state()
	if err != wantErr || !slices.Equal(wholes, wantWholes) || !slices.Equal(rejects, wantRejects) {
		t.Fatalf("Accept(%+v, %+v, %v) = %+v, %+v, %v, not %+v, %+v, %v", in, b, w, wholes, rejects, err, wantWholes, wantRejects, wantErr)
	}
	if err != api.OK && !same(next, api.Intake{}) || err == api.OK && !same(next, want) {
		t.Fatalf("Accept(%+v, %+v, %v) = %+v, not %+v", in, b, w, next, want)
	}
	if !Check(next) {
		t.Fatalf("%+v is not consistent", next)
	}
	for source := range api.MaxSource + 1 {
		grown := Next(want, source) - Next(in, source)
		if taken := err == api.OK && source == b.Source; taken && grown != 1 || !taken && grown != 0 {
			t.Fatalf("Next(.., %d) has grown by %d: %+v, %v", source, grown, b, err)
		}
	}
	if err == api.OK && !balanced(in, next, b, wholes, rejects) {
		t.Fatalf("Accept(%+v, %+v, %v) has lost units", in, b, w)
	}
	erase(next)
	clear(wholes[:cap(wholes)])
	if !slices.Equal(rejects, wantRejects) {
		t.Fatal("results share memory")
	}
	if !unchanged(state, in) || !slices.Equal(list, b.Records) || list[:len(list)+1][len(list)].Source != -7 {
		t.Fatal("an argument has changed")
	}
	return err
}

// P16.1, P16.5 and P16.7: batches in sequence, with some that are refused, and with calls that are closed between them.
func TestAccept(t *testing.T) {
	rnd := rand.New(rand.NewSource(161))
	found := map[api.Errno]int{}
	for range 500 {
		m := &model{seen: map[identity]bool{}}
		var in api.Intake
		for range rnd.Intn(12) {
			w := api.Window{Earliest: rnd.Intn(3) - 1, Latest: 7 + rnd.Intn(4)}
			found[testAccept(t, in, m, someBatch(rnd, m), w)]++
			if rnd.Intn(4) == 0 {
				_, m.open = correlate.Expire(m.open, rnd.Intn(10))
			}
			in = m.state()
		}
	}
	for _, err := range []api.Errno{api.OK, api.ErrSequence, api.ErrKind, api.ErrRange, api.ErrInvalid} {
		if found[err] < 30 {
			t.Error("error", err, "only", found[err])
		}
	}
}

// P16.1: the errors, in their order.
func TestAcceptErrors(t *testing.T) {
	in, _, _, _ := Accept(api.Intake{}, file(1, record(1, 1, 0, 1)), always)
	b := api.Batch{Source: 0, Number: 0, Format: 0, Records: make([]api.Record, api.MaxRecords+1)}
	for i, x := range []struct {
		want   api.Errno
		repair func()
	}{
		{api.ErrRange, func() { b.Source = 1 }},
		{api.ErrRange, func() { b.Number = api.MaxSerial + 1 }},
		{api.ErrRange, func() { b.Number = 1 }},
		{api.ErrKind, func() { b.Format = api.FormatPacked }},
		{api.ErrTooLong, func() { b.Records = []api.Record{record(2, 2, -1, 5), record(1, 3, 0, -1)} }},
		{api.ErrTime, func() { b.Records[0].Start = 0 }},
		{api.ErrInvalid, func() { b.Records[0].Source = 1 }},
		{api.ErrRange, func() { b.Records[1].Units = 1 }},
		{api.ErrSequence, func() { b.Number = 3 }},
		{api.ErrSequence, func() { b.Number = api.MaxSerial }},
		{api.ErrSequence, func() { b.Source, b.Records = 2, nil }},
		{api.ErrSequence, func() { b.Number = 2 }},
		{api.ErrSequence, func() { b.Source = 1 }},
		{api.OK, func() {}},
	} {
		next, wholes, rejects, err := Accept(in, b, always)
		if err != x.want || err != api.OK && (!same(next, api.Intake{}) || len(wholes)+len(rejects) > 0) {
			t.Errorf("case %d: Accept(.., %+v) = %+v, %v, %v, %v, not %v", i, b.Number, next, wholes, rejects, err, x.want)
		}
		x.repair()
	}
}

// Examples 1 and 2; P16.6: a batch that is repeated, with its number and with the next one.
func TestAcceptTwice(t *testing.T) {
	b := file(1, record(1, 1, 5, 1), record(1, 2, 6, 1), part(3, 1, false), part(4, 2, true), part(5, 2, false))
	in, wholes, rejects, err := Accept(api.Intake{}, b, always)
	if err != api.OK || len(wholes) != 3 || len(rejects) != 0 || len(in.Open) != 1 || Next(in, 1) != 2 {
		t.Fatal(in, wholes, rejects, err)
	}
	if _, _, _, err := Accept(in, b, always); err != api.ErrSequence {
		t.Error(err)
	}
	b.Number = 2
	if _, _, _, err := Accept(api.Intake{}, b, always); err != api.ErrSequence {
		t.Error(err)
	}
	again, wholes, rejects, err := Accept(in, b, api.Window{Earliest: 0, Latest: 5})
	want := []api.Reject{{Source: 1, Serial: 1, Index: 0, Err: api.ErrDuplicate}, {Source: 1, Serial: 2, Index: 1, Err: api.ErrTime}, {Source: 1, Serial: 3, Index: 2, Err: api.ErrDuplicate}, {Source: 1, Serial: 4, Index: 3, Err: api.ErrDuplicate}, {Source: 1, Serial: 5, Index: 4, Err: api.ErrDuplicate}}
	if err != api.OK || len(wholes) != 0 || !slices.Equal(rejects, want) || !slices.Equal(again.Open, in.Open) || !slices.Equal(again.Seen, in.Seen) {
		t.Error(again, wholes, rejects, err)
	}
	if !slices.Equal(again.Heads, []api.Head{{Source: 1, Number: 1, Format: api.FormatText, Count: 5}, {Source: 1, Number: 2, Format: api.FormatText, Count: 5}}) {
		t.Error(again.Heads)
	}
}

// Example 3: a record outside the window is not seen. P16.1: the same serial number twice in a batch.
func TestAcceptWindow(t *testing.T) {
	w := api.Window{Earliest: 10, Latest: 20}
	in, wholes, rejects, err := Accept(api.Intake{}, file(1, record(1, 1, 9, 1), record(1, 2, 10, 2), record(1, 2, 21, 4), record(1, 2, 20, 8), record(1, 3, 20, 16), record(1, 4, 21, 32)), w)
	if err != api.OK || len(wholes) != 2 || wholes[0].Units != 2 || wholes[1].Units != 16 {
		t.Error(wholes, err)
	}
	if !slices.Equal(rejects, []api.Reject{{Source: 1, Serial: 1, Index: 0, Err: api.ErrTime}, {Source: 1, Serial: 2, Index: 2, Err: api.ErrTime}, {Source: 1, Serial: 2, Index: 3, Err: api.ErrDuplicate}, {Source: 1, Serial: 4, Index: 5, Err: api.ErrTime}}) {
		t.Error(rejects)
	}
	if !slices.Equal(in.Seen, []api.Range{{Source: 1, From: 2, To: 3}}) {
		t.Error(in.Seen)
	}
	in, wholes, rejects, err = Accept(in, file(2, record(1, 1, 10, 1)), w)
	if err != api.OK || len(wholes) != 1 || len(rejects) != 0 || !slices.Equal(in.Seen, []api.Range{{Source: 1, From: 1, To: 3}}) {
		t.Error(in, wholes, rejects, err)
	}
	// A window without instants.
	if _, wholes, rejects, err := Accept(in, file(3, record(1, 5, 10, 1)), api.Window{Earliest: 11, Latest: 9}); err != api.OK || len(wholes) != 0 || len(rejects) != 1 {
		t.Error(wholes, rejects, err)
	}
}

// P16.1: a call whose parts come in several batches, and an empty batch.
func TestAcceptParts(t *testing.T) {
	var in api.Intake
	for number, list := range [][]api.Record{{part(30, 3, true)}, {}, {part(10, 1, false)}} {
		next, wholes, rejects, err := Accept(in, file(number+1, list...), always)
		if err != api.OK || len(wholes) != 0 || len(rejects) != 0 {
			t.Fatal(wholes, rejects, err)
		}
		in = next
	}
	if !slices.Equal(in.Open, []api.Record{part(10, 1, false), part(30, 3, true)}) || len(in.Heads) != 3 || in.Heads[1].Count != 0 {
		t.Error(in)
	}
	in, wholes, _, err := Accept(in, file(4, part(20, 2, false)), always)
	if err != api.OK || len(in.Open) != 0 || !slices.Equal(wholes, []api.Record{record(1, 10, 0, 30)}) {
		t.Error(in, wholes, err)
	}
}

// P16.2, P16.5 and P16.7.
func TestClose(t *testing.T) {
	rnd := rand.New(rand.NewSource(162))
	for range 500 {
		m := &model{seen: map[identity]bool{}}
		for range rnd.Intn(8) {
			m.accept(someBatch(rnd, m), always)
		}
		in := m.state()
		for _, before := range []int{math.MinInt, 0, 1, 3, 5, 7, 9, 10, math.MaxInt} {
			state := given(in)
			closed, wholes := Close(state, before)
			wantWholes, open := correlate.Expire(in.Open, before)
			if !slices.Equal(wholes, wantWholes) || !same(closed, api.Intake{Seen: in.Seen, Open: open, Heads: in.Heads}) {
				t.Fatalf("Close(%+v, %d) = %+v, %+v", in, before, closed, wholes)
			}
			if !Check(closed) {
				t.Fatalf("%+v is not consistent", closed)
			}
			if before == math.MaxInt && len(closed.Open) != 0 {
				t.Fatal(closed)
			}
			for source := range api.MaxSource + 1 {
				if Next(closed, source) != Next(in, source) {
					t.Fatal("Next has changed")
				}
			}
			erase(closed)
			clear(wholes[:cap(wholes)])
			if !unchanged(state, in) {
				t.Fatal("the argument has changed")
			}
		}
	}
}

// P16.3: the last header of a source counts, in any state.
func TestNext(t *testing.T) {
	in := api.Intake{Heads: []api.Head{{Source: 5, Number: 9}, {Source: 3, Number: 8}, {Source: 5, Number: 4}, {Source: 99, Number: api.MaxSerial, Format: -1, Count: -1}, {Source: 0, Number: 7}, {Source: 100, Number: 7}, {Source: -1, Number: 7}, {Source: 4, Number: -5}}}
	for source, want := range map[int]int{1: 1, 2: 1, 3: 9, 4: -4, 5: 5, 98: 1, 99: api.MaxSerial + 1, 0: 0, -1: 0, 100: 0, math.MinInt: 0, math.MaxInt: 0} {
		if got := Next(in, source); got != want {
			t.Errorf("Next(.., %d) = %d, not %d", source, got, want)
		}
	}
	if Next(api.Intake{}, 1) != 1 || Next(api.Intake{}, 99) != 1 || Next(api.Intake{}, 0) != 0 {
		t.Error("the zero state")
	}
}
