package records

import (
	"math"
	"math/big"
	"math/rand"
	"strings"
	"testing"

	"billing/api"
	"billing/samples"
)

// base is a valid record with all fields.
func base() api.Record {
	return api.Record{Source: 1, Serial: 7, Kind: api.KindVoice, A: "4915", B: "4930", Start: 60, Units: 90, Call: 3, Part: 2, Last: true, Trunk: 5, Inbound: true}
}

// isNumber reports whether s is a number.
func isNumber(s string) bool {
	return len(s) >= 1 && len(s) <= 15 && strings.Trim(s, "0123456789") == ""
}

// modelCheck returns the error of a record: the numbered sentences of the definition, one by one.
func modelCheck(r api.Record) api.Errno {
	from := func(n, least, most int) bool { return n >= least && n <= most }
	end := new(big.Int).Add(big.NewInt(int64(r.Start)), big.NewInt(int64(r.Units)))
	voice := r.Kind == api.KindVoice
	free := r.B == "" && (r.Kind == api.KindData || r.Kind == api.KindContent)
	sentences := []struct {
		applies bool
		err     api.Errno
	}{
		{!(from(r.Source, 1, 99) && from(r.Serial, 1, 999999999)), api.ErrRange},
		{!from(r.Kind, 1, 4), api.ErrKind},
		{!(isNumber(r.A) && (isNumber(r.B) || free)), api.ErrNumber},
		{!from(r.Start, 0, 146097*86400-1), api.ErrTime},
		{!(from(r.Units, 0, 1<<40) && (!voice || r.Units <= 7*86400)), api.ErrRange},
		{voice && end.Cmp(big.NewInt(146097*86400)) > 0, api.ErrTime},
		{!(from(r.Call, 0, 999999999) && from(r.Part, 0, 99)), api.ErrRange},
		{r.Part == 0 && r.Call != 0 || r.Part != 0 && r.Call == 0 || r.Last && r.Part == 0, api.ErrInvalid},
		{!from(r.Trunk, 0, 999), api.ErrRange},
		{r.Inbound && r.Trunk == 0, api.ErrInvalid},
	}
	for _, s := range sentences {
		if s.applies {
			return s.err
		}
	}
	return api.OK
}

// change is a change of a valid record that gives it an error; rank is the number of the error in the definition.
type change struct {
	rank   int
	err    api.Errno
	change func(r *api.Record)
}

// changes returns changes for each of the errors, at both sides of each limit. None hides the error of another one of a different rank.
func changes() []change {
	var list []change
	add := func(rank int, err api.Errno, c func(r *api.Record)) { list = append(list, change{rank, err, c}) }
	numbers := func(rank int, err api.Errno, field func(r *api.Record) *int, values ...int) {
		for _, n := range values {
			add(rank, err, func(r *api.Record) { *field(r) = n })
		}
	}
	numbers(1, api.ErrRange, func(r *api.Record) *int { return &r.Source }, 0, -1, api.MaxSource+1, math.MinInt, math.MaxInt)
	numbers(1, api.ErrRange, func(r *api.Record) *int { return &r.Serial }, 0, -1, api.MaxSerial+1, math.MinInt, math.MaxInt)
	numbers(2, api.ErrKind, func(r *api.Record) *int { return &r.Kind }, 0, -1, api.Kinds, math.MinInt, math.MaxInt)
	for _, s := range []string{"", "-", "12a", "+12", " 1", "1 ", "1234567890123456", "\x00", "1\xff", "\u0661"} {
		add(3, api.ErrNumber, func(r *api.Record) { r.A = s })
		add(3, api.ErrNumber, func(r *api.Record) { r.B = s })
	}
	numbers(4, api.ErrTime, func(r *api.Record) *int { return &r.Start }, -1, api.Forever, math.MinInt, math.MaxInt)
	numbers(5, api.ErrRange, func(r *api.Record) *int { return &r.Units }, -1, api.MaxCall+1, api.MaxUnits, api.MaxUnits+1, math.MinInt, math.MaxInt)
	numbers(7, api.ErrRange, func(r *api.Record) *int { return &r.Call }, -1, api.MaxSerial+1, math.MinInt, math.MaxInt)
	numbers(7, api.ErrRange, func(r *api.Record) *int { return &r.Part }, -1, api.MaxParts+1, math.MinInt, math.MaxInt)
	numbers(9, api.ErrRange, func(r *api.Record) *int { return &r.Trunk }, -1, api.MaxTrunk+1, math.MinInt, math.MaxInt)
	return list
}

// Each error alone, and the first one of each two. (The others, 6, 8 and 10, follow below.)
func TestErrors(t *testing.T) {
	if err := Check(base()); err != api.OK {
		t.Fatal(err)
	}
	list := changes()
	for _, x := range list {
		r := base()
		x.change(&r)
		if err := Check(r); err != x.err {
			t.Errorf("Check(%+v) = %v, not %v", r, err, x.err)
		}
		for _, y := range list {
			q := r
			y.change(&q)
			if err := Check(q); x.rank < y.rank && err != x.err {
				t.Errorf("Check(%+v) = %v, not %v", q, err, x.err)
			}
		}
	}
}

// The limits themselves are valid.
func TestLimits(t *testing.T) {
	for _, r := range []api.Record{
		{Source: 1, Serial: 1, Kind: api.KindVoice, A: "1", B: "2", Units: 604800},
		{Source: api.MaxSource, Serial: api.MaxSerial, Kind: api.KindVoice, A: "123456789012345", B: "000000000000000", Start: api.Forever - 1, Units: 1, Call: api.MaxSerial, Part: api.MaxParts, Last: true, Trunk: api.MaxTrunk, Inbound: true},
		{Source: 1, Serial: 1, Kind: api.KindText, A: "1", B: "2", Start: api.Forever - 1, Units: api.MaxUnits, Call: 1, Part: 1, Trunk: 1},
		{Source: 1, Serial: 1, Kind: api.KindData, A: "1", Units: api.MaxUnits},
		{Source: 1, Serial: 1, Kind: api.KindData, A: "1", B: "2"},
		{Source: 1, Serial: 1, Kind: api.KindContent, A: "1", Start: api.Forever - 1, Units: api.MaxUnits},
		{Source: 1, Serial: 1, Kind: api.KindContent, A: "1", B: "2"},
		{Source: 1, Serial: 1, Kind: api.KindVoice, A: "1", B: "2", Start: api.Forever - 604800, Units: 604800},
	} {
		if err := Check(r); err != api.OK {
			t.Errorf("Check(%+v) = %v", r, err)
		}
	}
}

// What the kind decides: an empty B, the greatest number of units, and the end of a call.
func TestKinds(t *testing.T) {
	for kind := api.KindVoice; kind < api.Kinds; kind++ {
		want := func(voice, text, data api.Errno) api.Errno { return [...]api.Errno{voice, text, data, data}[kind-1] }
		r := api.Record{Source: 1, Serial: 1, Kind: kind, A: "1"}
		if err := Check(r); err != want(api.ErrNumber, api.ErrNumber, api.OK) {
			t.Error("no B:", kind, err)
		}
		r.B, r.A = "2", ""
		if err := Check(r); err != api.ErrNumber {
			t.Error("no A:", kind, err)
		}
		r.A, r.Units = "1", api.MaxCall+1
		if err := Check(r); err != want(api.ErrRange, api.OK, api.OK) {
			t.Error("a long call:", kind, err)
		}
		r.Start, r.Units = api.Forever-10, 11
		if err := Check(r); err != want(api.ErrTime, api.OK, api.OK) {
			t.Error("a late call:", kind, err)
		}
	}
}

// The errors 6, 8 and 10, and their order among the others.
func TestContradictions(t *testing.T) {
	r := api.Record{Source: 1, Serial: 1, Kind: api.KindVoice, A: "1", B: "2", Start: 60, Units: 90}
	for _, x := range []struct {
		change func(r *api.Record)
		want   api.Errno
	}{
		{func(r *api.Record) { r.Call = 5 }, api.ErrInvalid},
		{func(r *api.Record) { r.Part = 5 }, api.ErrInvalid},
		{func(r *api.Record) { r.Last = true }, api.ErrInvalid},
		{func(r *api.Record) { r.Call, r.Last = 5, true }, api.ErrInvalid},
		{func(r *api.Record) { r.Part, r.Last = 5, true }, api.ErrInvalid},
		{func(r *api.Record) { r.Inbound = true }, api.ErrInvalid},
		{func(r *api.Record) { r.Part = 100 }, api.ErrRange},
		{func(r *api.Record) { r.Start, r.Part = api.Forever-89, 100 }, api.ErrTime},
		{func(r *api.Record) { r.Start, r.Call = api.Forever-89, 5 }, api.ErrTime},
		{func(r *api.Record) { r.Start, r.Units = api.Forever-1, api.MaxCall+1 }, api.ErrRange},
		{func(r *api.Record) { r.Call, r.Trunk = 5, 1000 }, api.ErrInvalid},
		{func(r *api.Record) { r.Trunk, r.Inbound = -1, true }, api.ErrRange},
	} {
		q := r
		x.change(&q)
		if err := Check(q); err != x.want {
			t.Errorf("Check(%+v) = %v, not %v", q, err, x.want)
		}
	}
}

// Many records, with several errors, against the model.
func TestAgainstModel(t *testing.T) {
	rnd := rand.New(rand.NewSource(9))
	list := changes()
	for range 200000 {
		r := samples.Record(rnd.Intn)
		for range rnd.Intn(4) / 2 {
			list[rnd.Intn(len(list))].change(&r)
		}
		if err := Check(r); err != modelCheck(r) {
			t.Fatalf("Check(%+v) = %v, not %v", r, err, modelCheck(r))
		}
	}
}

// Two records are the same one if they agree in the source and the serial number, whatever else they say.
func TestDistinct(t *testing.T) {
	rnd := rand.New(rand.NewSource(10))
	found := map[bool]int{}
	for range 5000 {
		list := make([]api.Record, rnd.Intn(6))
		want := true
		for i := range list {
			list[i] = samples.Record(rnd.Intn)
			list[i].Source, list[i].Serial = rnd.Intn(3)-1, rnd.Intn(6)-1
			for _, other := range list[:i] {
				want = want && (other.Source != list[i].Source || other.Serial != list[i].Serial)
			}
		}
		if Distinct(list) != want {
			t.Fatalf("Distinct(%+v) = %v", list, !want)
		}
		found[want]++
	}
	if found[true] < 500 || found[false] < 500 || !Distinct(nil) {
		t.Error(found)
	}
}
