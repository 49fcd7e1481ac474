package validate

import (
	"math"
	"math/rand"
	"slices"
	"testing"

	"billing/api"
	"billing/samples"
)

// call is the record of the first example.
func call() api.Record {
	return api.Record{Source: 1, Serial: 1, Kind: api.KindVoice, A: "1", B: "2", Units: 604800}
}

// P13.1: examples 1 and 2, and the limits that the definition names.
func TestCheck(t *testing.T) {
	for i, x := range []struct {
		change func(r *api.Record)
		want   api.Errno
	}{
		{func(r *api.Record) {}, api.OK},
		{func(r *api.Record) { r.Units++ }, api.ErrRange},
		{func(r *api.Record) { r.Start, r.Units = api.Forever-10, 11 }, api.ErrTime},
		{func(r *api.Record) { r.Start, r.Units = api.Forever-10, 10 }, api.OK},
		{func(r *api.Record) { r.Call, r.Part = 5, 0 }, api.ErrInvalid},
		{func(r *api.Record) { r.Call, r.Part = 5, 100 }, api.ErrRange},
		{func(r *api.Record) { r.Source = 99 }, api.OK},
		{func(r *api.Record) { r.Source = 100 }, api.ErrRange},
		{func(r *api.Record) { r.Source = 0 }, api.ErrRange},
		{func(r *api.Record) { r.Serial = 999999999 }, api.OK},
		{func(r *api.Record) { r.Serial = 1000000000 }, api.ErrRange},
		{func(r *api.Record) { r.Serial = 0 }, api.ErrRange},
		{func(r *api.Record) { r.Kind = 0 }, api.ErrKind},
		{func(r *api.Record) { r.Kind = 5 }, api.ErrKind},
		{func(r *api.Record) { r.A = "" }, api.ErrNumber},
		{func(r *api.Record) { r.A = "1234567890123456" }, api.ErrNumber},
		{func(r *api.Record) { r.B = "1234567890123456" }, api.ErrNumber},
		{func(r *api.Record) { r.B = "" }, api.ErrNumber},
		{func(r *api.Record) { r.B, r.Kind = "", api.KindText }, api.ErrNumber},
		{func(r *api.Record) { r.B, r.Kind = "", api.KindData }, api.OK},
		{func(r *api.Record) { r.B, r.Kind = "", api.KindContent }, api.OK},
		{func(r *api.Record) { r.B, r.Kind = "x", api.KindContent }, api.ErrNumber},
		{func(r *api.Record) { r.Start = -1 }, api.ErrTime},
		{func(r *api.Record) { r.Start, r.Kind = api.Forever, api.KindText }, api.ErrTime},
		{func(r *api.Record) { r.Start, r.Kind = api.Forever-1, api.KindText }, api.OK},
		{func(r *api.Record) { r.Units = -1 }, api.ErrRange},
		{func(r *api.Record) { r.Units = 0 }, api.OK},
		{func(r *api.Record) { r.Units, r.Kind = 1<<40, api.KindText }, api.OK},
		{func(r *api.Record) { r.Units, r.Kind = 1<<40+1, api.KindText }, api.ErrRange},
		{func(r *api.Record) { r.Call, r.Part, r.Last = 999999999, 99, true }, api.OK},
		{func(r *api.Record) { r.Call, r.Part = 1000000000, 1 }, api.ErrRange},
		{func(r *api.Record) { r.Call, r.Part = -1, 1 }, api.ErrRange},
		{func(r *api.Record) { r.Call, r.Part = 1, -1 }, api.ErrRange},
		{func(r *api.Record) { r.Call, r.Part = 0, 1 }, api.ErrInvalid},
		{func(r *api.Record) { r.Last = true }, api.ErrInvalid},
		{func(r *api.Record) { r.Trunk, r.Inbound = 999, true }, api.OK},
		{func(r *api.Record) { r.Trunk = 1000 }, api.ErrRange},
		{func(r *api.Record) { r.Trunk = -1 }, api.ErrRange},
		{func(r *api.Record) { r.Inbound = true }, api.ErrInvalid},
	} {
		r := call()
		x.change(&r)
		if err := Check(r); err != x.want {
			t.Errorf("%d: Check(%+v) = %v, not %v", i, r, err, x.want)
		}
	}
}

// P13.1: a record has the first of its errors. The record has all of them that can come together; they are repaired one by one.
func TestCheckOrder(t *testing.T) {
	r := api.Record{Kind: 5, A: "-", B: "", Start: -1, Units: math.MaxInt, Call: -5, Part: 0, Last: true, Trunk: -1, Inbound: true}
	for i, x := range []struct {
		want   api.Errno
		repair func()
	}{
		{api.ErrRange, func() { r.Source = 1 }},
		{api.ErrRange, func() { r.Serial = 1 }},
		{api.ErrKind, func() { r.Kind = api.KindVoice }},
		{api.ErrNumber, func() { r.A = "1" }},
		{api.ErrNumber, func() { r.B = "2" }},
		{api.ErrTime, func() { r.Start = api.Forever - 1 }},
		{api.ErrRange, func() { r.Units = api.MaxCall + 1 }},
		{api.ErrRange, func() { r.Units = api.MaxCall }},
		{api.ErrTime, func() { r.Units = 1 }},
		{api.ErrRange, func() { r.Call = 5 }},
		{api.ErrInvalid, func() { r.Call = 0 }},
		{api.ErrInvalid, func() { r.Last = false }},
		{api.ErrRange, func() { r.Trunk = 0 }},
		{api.ErrInvalid, func() { r.Inbound = false }},
		{api.OK, func() {}},
	} {
		if err := Check(r); err != x.want {
			t.Errorf("%d: Check(%+v) = %v, not %v", i, r, err, x.want)
		}
		x.repair()
	}
}

// P13.2: both limits belong to the window, and neither the record nor the window needs to be valid.
func TestWindow(t *testing.T) {
	limits := []int{math.MinInt, -1, 0, 9, 10, 11, 19, 20, 21, api.Forever, math.MaxInt}
	for _, start := range limits {
		for _, earliest := range limits {
			for _, latest := range limits {
				want := api.OK
				if start < earliest {
					want = api.ErrTime
				}
				if latest < start {
					want = api.ErrTime
				}
				for _, r := range []api.Record{{Start: start}, {Source: 1, Serial: 1, Kind: api.KindText, A: "1", B: "2", Start: start, Units: 100}} {
					if err := Window(r, api.Window{Earliest: earliest, Latest: latest}); err != want {
						t.Fatalf("Window(%+v, %d to %d) = %v, not %v", r, earliest, latest, err, want)
					}
				}
			}
		}
	}
}

// P13.3: example 3, and a record that is neither valid nor in the window.
func TestAll(t *testing.T) {
	early, first, last, late, wrong := call(), call(), call(), call(), call()
	early.Start, early.Serial = 9, 7
	first.Start = 10
	last.Start, last.Units = 20, 0
	late.Start, late.Source = 21, 2
	wrong.Start, wrong.Source, wrong.Serial, wrong.Kind = 9, 3, -5, 0
	list, rejects := All([]api.Record{early, first, wrong, last, {}, first, late}, api.Window{Earliest: 10, Latest: 20})
	if !slices.Equal(list, []api.Record{first, last, first}) {
		t.Error(list)
	}
	if !slices.Equal(rejects, []api.Reject{
		{Source: 1, Serial: 7, Index: 0, Err: api.ErrTime},
		{Source: 3, Serial: -5, Index: 2, Err: api.ErrRange},
		{Index: 4, Err: api.ErrRange},
		{Source: 2, Serial: 1, Index: 6, Err: api.ErrTime},
	}) {
		t.Error(rejects)
	}
	wrong.Serial = 5
	if _, rejects := All([]api.Record{wrong}, api.Window{Earliest: 10, Latest: 20}); !slices.Equal(rejects, []api.Reject{{Source: 3, Serial: 5, Err: api.ErrKind}}) {
		t.Error(rejects)
	}
	for _, none := range [][]api.Record{nil, {}} {
		if list, rejects := All(none, api.Window{}); len(list)+len(rejects) != 0 {
			t.Error(list, rejects)
		}
	}
}

// someWindow returns a window that many sample records lie in; some windows are empty.
func someWindow(rnd *rand.Rand) api.Window {
	w := api.Window{Earliest: rnd.Intn(1 + rnd.Intn(api.Forever)), Latest: rnd.Intn(api.Forever)}
	if rnd.Intn(4) == 0 {
		w = api.Window{Earliest: math.MinInt, Latest: math.MaxInt}
	}
	return w
}

// P13.3 and P13.5: each record has its one place, and what All returns passes again. R5: the list stays as it is and shares no memory with the results.
func TestAllPlaces(t *testing.T) {
	rnd := rand.New(rand.NewSource(13))
	valid, early := 0, 0
	for range 3000 {
		w := someWindow(rnd)
		list := make([]api.Record, rnd.Intn(12), 20)
		for i := range list {
			list[i] = samples.Record(rnd.Intn)
		}
		before := slices.Clone(list[:cap(list)])
		passed, rejects := All(list, w)
		if len(passed)+len(rejects) != len(list) {
			t.Fatal(len(passed), len(rejects), len(list))
		}
		for i, r := range list {
			err := Check(r)
			if err == api.OK && (r.Start < w.Earliest || r.Start > w.Latest) {
				err = api.ErrTime
				early++
			}
			if err != api.OK {
				if rejects[0] != (api.Reject{Source: r.Source, Serial: r.Serial, Index: i, Err: err}) {
					t.Fatalf("record %d, %+v: %v, not %v", i, r, rejects[0], err)
				}
				rejects = rejects[1:]
				continue
			}
			if passed[i-(len(list)-len(passed)-len(rejects))] != r {
				t.Fatalf("record %d is not among those that pass", i)
			}
			valid++
		}
		again, rejects := All(passed, w)
		if !slices.Equal(again, passed) || len(rejects) != 0 {
			t.Fatal(again, rejects)
		}
		clear(passed[:cap(passed)])
		if !slices.Equal(list[:cap(list)], before) {
			t.Fatal("the argument has changed")
		}
	}
	if valid < 1000 || early < 1000 {
		t.Error("too few records of a sort:", valid, early)
	}
}

// P13.4: example 4, and all other numbers and strings.
func TestNames(t *testing.T) {
	for kind, name := range map[int]string{api.KindVoice: "voice", api.KindText: "text", api.KindData: "data", api.KindContent: "content"} {
		if Name(kind) != name || Kind(name) != kind {
			t.Errorf("%d: %q; %s: %d", kind, Name(kind), name, Kind(name))
		}
		for _, other := range []string{name + " ", name + "\x00", name[1:], name[:len(name)-1], string(name[0]-'a'+'A') + name[1:]} {
			if Kind(other) != 0 {
				t.Errorf("Kind(%q) = %d", other, Kind(other))
			}
		}
	}
	for _, kind := range []int{0, -1, -4, 5, 6, math.MinInt, math.MaxInt} {
		if Name(kind) != "" {
			t.Errorf("Name(%d) = %q", kind, Name(kind))
		}
	}
	for _, name := range []string{"", "v", "0", "1", "sms", "voicetext"} {
		if Kind(name) != 0 {
			t.Errorf("Kind(%q) = %d", name, Kind(name))
		}
	}
}

// P13.6: fewer units and another serial number leave a valid record valid.
func TestIndependence(t *testing.T) {
	rnd := rand.New(rand.NewSource(136))
	valid := 0
	for range 20000 {
		r := samples.Record(rnd.Intn)
		if Check(r) != api.OK {
			continue
		}
		valid++
		for _, units := range []int{0, r.Units / 2, max(0, r.Units-1), rnd.Intn(r.Units + 1)} {
			for _, serial := range []int{1, 1 + rnd.Intn(api.MaxSerial), api.MaxSerial} {
				q := r
				q.Units, q.Serial = units, serial
				if err := Check(q); err != api.OK {
					t.Fatalf("Check(%+v) = %v", q, err)
				}
			}
		}
	}
	if valid < 5000 {
		t.Error("too few valid records:", valid)
	}
}
