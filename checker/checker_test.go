package checker

import (
	"math"
	"math/rand"
	"reflect"
	"slices"
	"strconv"
	"strings"
	"testing"

	"billing/api"
	"billing/samples"
)

// step returns a step.
func step(upto, quantum, price int) api.Step {
	return api.Step{Upto: upto, Quantum: quantum, Price: price}
}

// modelSteps returns the error of a ladder: the sentences of P26.2.
func modelSteps(steps []api.Step) api.Errno {
	if len(steps) == 0 {
		return api.ErrInvalid
	}
	if len(steps) > 64 {
		return api.ErrTooLong
	}
	for i, s := range steps {
		if s.Upto < 0 || s.Upto > 1<<40 || s.Quantum < 1 || s.Quantum > 1<<40 || s.Price < 0 || s.Price > 1<<50 {
			return api.ErrRange
		}
		if isLast := i == len(steps)-1; isLast && s.Upto != 0 || !isLast && s.Upto == 0 {
			return api.ErrInvalid
		}
		if i > 0 && s.Upto != 0 && s.Upto <= steps[i-1].Upto {
			return api.ErrOrder
		}
	}
	return api.OK
}

// checkSteps compares Steps with the model, and returns the error.
func checkSteps(t *testing.T, steps ...api.Step) api.Errno {
	t.Helper()
	given := slices.Clone(steps)
	err := Steps(steps)
	if want := modelSteps(given); err != want || !slices.Equal(steps, given) {
		t.Fatalf("Steps(%v) = %v, not %v", given, err, want)
	}
	return err
}

// P26.2: the examples.
func TestStepsExamples(t *testing.T) {
	for i, x := range []struct {
		steps []api.Step
		err   api.Errno
	}{
		{[]api.Step{step(60, 60, 1000), step(0, 1, 20)}, api.OK},
		{[]api.Step{step(60, 60, 1000), step(60, 1, 20)}, api.ErrInvalid},
		{[]api.Step{step(60, 1, 1), step(50, 1, 1), step(0, 1, 1)}, api.ErrOrder},
	} {
		if err := Steps(x.steps); err != x.err {
			t.Error("example", i, err)
		}
	}
}

// P26.2: one and two steps with all fields at their limits and beyond them.
func TestStepLimits(t *testing.T) {
	var all []api.Step
	for _, upto := range []int{-1, 0, 1, 2, api.MaxUnits - 1, api.MaxUnits, api.MaxUnits + 1, math.MinInt, math.MaxInt} {
		for _, quantum := range []int{-1, 0, 1, api.MaxUnits, api.MaxUnits + 1, math.MinInt, math.MaxInt} {
			for _, price := range []int{-1, 0, api.MaxAmount, api.MaxAmount + 1, -api.MaxAmount, math.MinInt, math.MaxInt} {
				all = append(all, step(upto, quantum, price))
			}
		}
	}
	found := map[api.Errno]int{}
	for _, s := range all {
		found[checkSteps(t, s)]++
		for _, x := range all {
			found[checkSteps(t, s, x)]++
		}
	}
	if found[api.OK] < 50 || found[api.ErrInvalid] < 50 || found[api.ErrRange] < 50 {
		t.Error(found)
	}
}

// P26.2: the order of up to four steps, also with a price that is out of range.
func TestStepOrder(t *testing.T) {
	var all []api.Step
	for _, upto := range []int{0, 1, 2, 3, -1, api.MaxUnits} {
		all = append(all, step(upto, 1, 0), step(upto, 1, -upto%2))
	}
	found := map[api.Errno]int{}
	for _, a := range all {
		for _, b := range all {
			for _, c := range all {
				found[checkSteps(t, a, b, c)]++
				for _, d := range all {
					found[checkSteps(t, a, b, c, d)]++
				}
			}
		}
	}
	for _, err := range []api.Errno{api.OK, api.ErrInvalid, api.ErrRange, api.ErrOrder} {
		if found[err] < 50 {
			t.Error("the error", err, "only", found[err])
		}
	}
}

// ladder returns so many steps, which are valid together.
func ladder(count int) []api.Step {
	steps := make([]api.Step, count)
	for i := range steps {
		steps[i] = api.Step{Upto: i + 1, Quantum: 1}
	}
	steps[count-1].Upto = 0
	return steps
}

// P26.2: the number of steps.
func TestStepCount(t *testing.T) {
	for _, none := range [][]api.Step{nil, {}} {
		if err := Steps(none); err != api.ErrInvalid {
			t.Error("none:", err)
		}
	}
	for count, want := range map[int]api.Errno{1: api.OK, 2: api.OK, 63: api.OK, 64: api.OK, 65: api.ErrTooLong, 100000: api.ErrTooLong} {
		if err := checkSteps(t, ladder(count)...); err != want {
			t.Error(count, err)
		}
		bad := ladder(count)
		bad[0].Price = -1
		if err := checkSteps(t, bad...); want == api.OK && err != api.ErrRange || want != api.OK && err != want {
			t.Error(count, "with a price:", err)
		}
	}
}

// basic is a valid tariff.
func basic() api.Tariff {
	return api.Tariff{
		Name: "basic", From: 1000,
		Zones: []api.Zone{{Name: "home", Prefixes: []string{"49", "4930"}}, {Name: "mobile", Prefixes: []string{"4915"}}},
		Bands: []api.Band{{Name: "work", Slots: []api.Slot{{Days: 31, From: 480, To: 1080}}}, {Name: "free"}},
		Rates: []api.Rate{
			{Kind: api.KindVoice, Zone: "home", Band: "work", Setup: 5, Steps: ladder(3)},
			{Kind: api.KindContent, Zone: "mobile", Steps: ladder(1)},
		},
		Discounts: []api.Discount{
			{Name: "loyal", When: name("family"), Points: 500},
			{Name: "home", When: op(api.OpLess, name("units"), num(60))},
		},
	}
}

// fault is a change of basic that gives it an error; rank is the number of the error in the order of P26.3. None hides the error of another one of a different rank.
type fault struct {
	rank   int
	err    api.Errno
	change func(x *api.Tariff)
}

// notNames are texts that are no names.
func notNames() []string {
	return []string{"", "F", "1a", "-", "-a", "a b", "a_b", "aB", "a\x00", "\xff", "\u00e4", "a\u00e4", strings.Repeat("a", 25)}
}

// headFaults are the errors of everything in front of the rates.
func headFaults() []fault {
	var list []fault
	for _, s := range notNames() {
		list = append(list, fault{1, api.ErrInvalid, func(x *api.Tariff) { x.Name = s }})
		list = append(list, fault{3, api.ErrInvalid, func(x *api.Tariff) { x.Zones[0].Name = s }})
		list = append(list, fault{4, api.ErrInvalid, func(x *api.Tariff) { x.Bands[0].Name = s }})
	}
	for _, n := range []int{-1, api.Forever, api.Forever + 1, math.MinInt, math.MaxInt} {
		list = append(list, fault{2, api.ErrTime, func(x *api.Tariff) { x.From = n }})
	}
	return append(list, []fault{
		{3, api.ErrExists, func(x *api.Tariff) { x.Zones[1].Name = "home" }},
		{3, api.ErrInvalid, func(x *api.Tariff) { x.Zones[1].Prefixes = nil }},
		{3, api.ErrNumber, func(x *api.Tariff) { x.Zones[1].Prefixes[0] = "+49" }},
		{3, api.ErrNumber, func(x *api.Tariff) { x.Zones[0].Prefixes[1] = "1234567890123456" }},
		{3, api.ErrExists, func(x *api.Tariff) { x.Zones[1].Prefixes[0] = "4930" }},
		{3, api.ErrTooLong, func(x *api.Tariff) { x.Zones = append(x.Zones, make([]api.Zone, 63)...) }},
		{4, api.ErrInvalid, func(x *api.Tariff) { x.Bands = nil }},
		{4, api.ErrInvalid, func(x *api.Tariff) { slices.Reverse(x.Bands) }},
		{4, api.ErrInvalid, func(x *api.Tariff) { x.Bands = x.Bands[:1] }},
		{4, api.ErrExists, func(x *api.Tariff) { x.Bands[1].Name = "work" }},
		{4, api.ErrRange, func(x *api.Tariff) { x.Bands[0].Slots[0].Days = 256 }},
		{4, api.ErrRange, func(x *api.Tariff) { x.Bands[0].Slots[0].To = 480 }},
		{4, api.ErrTooLong, func(x *api.Tariff) { x.Bands = append(x.Bands, make([]api.Band, 63)...) }},
	}...)
}

// rateFaults are the errors of the rates.
func rateFaults() []fault {
	list := []fault{{5, api.ErrTooLong, func(x *api.Tariff) { x.Rates = append(x.Rates, slices.Repeat(x.Rates[1:], 63)...) }}}
	for i := range 2 {
		add := func(rank int, err api.Errno, change func(r *api.Rate)) {
			list = append(list, fault{10*(i+1) + rank, err, func(x *api.Tariff) { change(&x.Rates[i]) }})
		}
		for _, n := range []int{0, -1, api.Kinds, api.Kinds + 1, math.MinInt, math.MaxInt} {
			add(0, api.ErrKind, func(r *api.Rate) { r.Kind = n })
		}
		for _, s := range []string{"any", "hom", "homes", "Home", "home ", "work", "free", "\xff", strings.Repeat("a", 1000)} {
			add(1, api.ErrNotFound, func(r *api.Rate) { r.Zone = s })
		}
		for _, s := range []string{"any", "wor", "works", "Work", "home", "mobile", "\xff"} {
			add(2, api.ErrNotFound, func(r *api.Rate) { r.Band = s })
		}
		for _, n := range []int{-1, api.MaxAmount + 1, -api.MaxAmount, math.MinInt, math.MaxInt} {
			add(3, api.ErrRange, func(r *api.Rate) { r.Setup = n })
		}
		for err, steps := range map[api.Errno][]api.Step{api.ErrInvalid: nil, api.ErrTooLong: ladder(65), api.ErrRange: {{Quantum: 0}}, api.ErrOrder: {step(2, 1, 1), step(2, 1, 1), step(0, 1, 1)}} {
			add(4, err, func(r *api.Rate) { r.Steps = steps })
		}
		add(4, api.ErrInvalid, func(r *api.Rate) { r.Steps = []api.Step{{Upto: 5, Quantum: 1}} })
	}
	return list
}

// discountFaults are the errors of the discounts.
func discountFaults() []fault {
	list := []fault{{50, api.ErrTooLong, func(x *api.Tariff) {
		for i := range 63 {
			x.Discounts = append(x.Discounts, api.Discount{Name: "d" + strconv.Itoa(i), When: name("family")})
		}
	}}}
	for i := range 2 {
		add := func(rank int, err api.Errno, change func(d *api.Discount)) {
			list = append(list, fault{10*(i+6) + rank, err, func(x *api.Tariff) { change(&x.Discounts[i]) }})
		}
		for _, s := range notNames() {
			add(0, api.ErrInvalid, func(d *api.Discount) { d.Name = s })
		}
		for _, e := range []api.Expr{{}, num(-1), text(strings.Repeat("a", 201)), name("colour"), samples.Negations(name("family"), 16), op(api.OpNot, num(1)), num(1), name("units"), text("a"), name("zone"), op(api.OpAdd, num(1), num(1))} {
			_, err := Expr(e)
			if err == api.OK {
				err = api.ErrKind
			}
			add(2, err, func(d *api.Discount) { d.When = e })
		}
		for _, n := range []int{-1, 10001, math.MinInt, math.MaxInt} {
			add(3, api.ErrRange, func(d *api.Discount) { d.Points = n })
		}
	}
	return append(list, fault{70, api.ErrExists, func(x *api.Tariff) { x.Discounts[1].Name = x.Discounts[0].Name }})
}

// P26.3: each error alone, and the first one of each two.
func TestTariffErrors(t *testing.T) {
	if err := Tariff(basic()); err != api.OK {
		t.Fatal(err)
	}
	list := slices.Concat(headFaults(), rateFaults(), discountFaults())
	for i, f := range list {
		x := basic()
		f.change(&x)
		if err := Tariff(x); err != f.err {
			t.Errorf("%+v: %v, not %v", x, err, f.err)
		}
		for j, g := range list {
			if f.rank == g.rank {
				continue
			}
			x, want := basic(), f.err
			if g.rank < f.rank {
				want = g.err
			}
			f.change(&x)
			g.change(&x)
			if err := Tariff(x); err != want {
				t.Fatalf("faults %d and %d: %.2000v: %v, not %v", i, j, x, err, want)
			}
		}
	}
}

// P26.3: the limits themselves are valid.
func TestTariffLimits(t *testing.T) {
	all := []api.Band{{Name: "all"}}
	var zones []api.Zone
	var discounts []api.Discount
	for i := range 64 {
		zones = append(zones, api.Zone{Name: "z" + strconv.Itoa(i), Prefixes: []string{strconv.Itoa(100 + i)}})
		discounts = append(discounts, api.Discount{Name: "d" + strconv.Itoa(i), When: samples.Negations(name("family"), 15), Points: 10000})
	}
	rate := api.Rate{Kind: api.KindData, Zone: "z63", Band: "all", Setup: api.MaxAmount, Steps: ladder(64)}
	last := api.Rate{Kind: api.KindText, Steps: []api.Step{step(0, api.MaxUnits, api.MaxAmount)}}
	for i, x := range []api.Tariff{
		{Name: "a", Bands: all},
		{Name: "a", Bands: all, Zones: []api.Zone{}, Rates: []api.Rate{}, Discounts: []api.Discount{}},
		{Name: "any", Split: true, Bands: []api.Band{{Name: "any"}}, Rates: []api.Rate{{Kind: 1, Band: "any", Steps: ladder(1)}}},
		{Name: strings.Repeat("z", 24), From: api.Forever - 1, Zones: zones, Bands: all, Rates: slices.Repeat([]api.Rate{rate}, 64), Discounts: discounts},
		{Name: "a-", Bands: all, Rates: []api.Rate{last, last}, Discounts: []api.Discount{{Name: "a", When: name("family")}}},
	} {
		if err := Tariff(x); err != api.OK {
			t.Error("case", i, err)
		}
	}
	for kind := api.KindVoice; kind < api.Kinds; kind++ {
		x := basic()
		x.Rates[0].Kind = kind
		if err := Tariff(x); err != api.OK {
			t.Error("the kind", kind, err)
		}
	}
}

// P26.3: random valid tariffs. R5: arguments do not change, and neither does their spare capacity.
func TestValidTariffs(t *testing.T) {
	rnd := rand.New(rand.NewSource(263))
	for range 3000 {
		seed := rnd.Int63()
		x := samples.ValidTariff(rand.New(rand.NewSource(seed)).Intn)
		same := samples.ValidTariff(rand.New(rand.NewSource(seed)).Intn)
		zone, rate, discount := api.Zone{Name: "spare"}, api.Rate{Zone: "spare"}, api.Discount{Name: "spare"}
		x.Zones, x.Rates, x.Discounts = samples.Spare(x.Zones, zone), samples.Spare(x.Rates, rate), samples.Spare(x.Discounts, discount)
		same.Zones, same.Rates, same.Discounts = samples.Spare(same.Zones, zone), samples.Spare(same.Rates, rate), samples.Spare(same.Discounts, discount)
		if err := Tariff(x); err != api.OK {
			t.Fatalf("%+v: %v", x, err)
		}
		for kind := range api.Kinds {
			Covered(x, kind)
		}
		if !reflect.DeepEqual(x, same) || !reflect.DeepEqual(x.Zones[:cap(x.Zones)], same.Zones[:cap(same.Zones)]) || !reflect.DeepEqual(x.Rates[:cap(x.Rates)], same.Rates[:cap(same.Rates)]) || !reflect.DeepEqual(x.Discounts[:cap(x.Discounts)], same.Discounts[:cap(same.Discounts)]) {
			t.Fatalf("%+v has changed to %+v", same, x)
		}
	}
}

// modelCovered reports whether a tariff is covered: the sentence of P26.4.
func modelCovered(t api.Tariff, kind int) bool {
	zones := append(slices.Clone(t.Zones), api.Zone{})
	covered := kind >= 1 && kind <= 4
	for _, z := range zones {
		for _, b := range t.Bands {
			covered = covered && slices.ContainsFunc(t.Rates, func(r api.Rate) bool {
				return r.Kind == kind && (r.Zone == z.Name || r.Zone == "") && (r.Band == b.Name || r.Band == "")
			})
		}
	}
	return covered
}

// P26.4: the example, and a rate that covers what it leaves out.
func TestCoveredExample(t *testing.T) {
	x := api.Tariff{Name: "a", Zones: []api.Zone{{Name: "home", Prefixes: []string{"49"}}}, Bands: []api.Band{{Name: "all"}}, Rates: []api.Rate{{Kind: api.KindVoice, Zone: "home", Steps: ladder(1)}}}
	if Tariff(x) != api.OK || Covered(x, api.KindVoice) {
		t.Error("without a rate for all zones")
	}
	x.Rates = append(x.Rates, api.Rate{Kind: api.KindVoice, Band: "all", Steps: ladder(1)})
	for kind := -1; kind <= api.Kinds; kind++ {
		if Tariff(x) != api.OK || Covered(x, kind) != (kind == api.KindVoice) {
			t.Error("the kind", kind)
		}
	}
}

// P26.4: tariffs of few names, valid or not, against the model.
func TestCoveredAgainstModel(t *testing.T) {
	rnd := rand.New(rand.NewSource(264))
	some := []string{"", "", "a", "b", "c", "\xff"}
	pick := func() string { return some[rnd.Intn(len(some))] }
	found := map[bool]int{}
	for range 100000 {
		var x api.Tariff
		for range rnd.Intn(3) {
			x.Zones = append(x.Zones, api.Zone{Name: pick()})
		}
		for range rnd.Intn(4) {
			x.Bands = append(x.Bands, api.Band{Name: pick()})
		}
		for range rnd.Intn(8) {
			x.Rates = append(x.Rates, api.Rate{Kind: rnd.Intn(4), Zone: pick(), Band: pick()})
		}
		kind := rnd.Intn(4)
		covered := Covered(x, kind)
		if covered != modelCovered(x, kind) {
			t.Fatalf("Covered(%+v, %d) = %v", x, kind, covered)
		}
		if len(x.Bands) > 1 && len(x.Rates) > 1 {
			found[covered]++
		}
	}
	if found[true] < 3000 || found[false] < 3000 {
		t.Error(found)
	}
}

// P26.4: integers that are no kinds, also if rates have them, and a tariff with nothing, which has all rates that it needs.
func TestCoveredKinds(t *testing.T) {
	for _, kind := range []int{0, -1, api.Kinds, api.Kinds + 1, math.MinInt, math.MaxInt} {
		if Covered(api.Tariff{}, kind) || Covered(api.Tariff{Bands: []api.Band{{}}, Rates: []api.Rate{{Kind: kind}}}, kind) {
			t.Error(kind)
		}
	}
	for kind := api.KindVoice; kind < api.Kinds; kind++ {
		if !Covered(api.Tariff{}, kind) || !Covered(api.Tariff{Bands: []api.Band{{}}, Rates: []api.Rate{{Kind: kind}}}, kind) || Covered(api.Tariff{Bands: []api.Band{{}}}, kind) {
			t.Error(kind)
		}
	}
	large := api.Tariff{Zones: make([]api.Zone, 1<<20), Bands: make([]api.Band, 1<<20), Rates: make([]api.Rate, 1<<20)}
	large.Rates[1<<20-1] = api.Rate{Kind: api.KindVoice}
	if !Covered(large, api.KindVoice) || Covered(large, api.KindText) {
		t.Error("a large tariff")
	}
}

// P26.5: a rate for all zones and all bands covers its kind, in any valid tariff.
func TestCoveredByOne(t *testing.T) {
	rnd := rand.New(rand.NewSource(265))
	for range 3000 {
		x := samples.ValidTariff(rnd.Intn)
		kind := 1 + rnd.Intn(4)
		before := Covered(x, kind)
		if before != modelCovered(x, kind) {
			t.Fatalf("%+v", x)
		}
		x.Rates = append(x.Rates, api.Rate{Kind: kind, Steps: samples.ValidSteps(rnd.Intn)})
		if Tariff(x) != api.OK || !Covered(x, kind) {
			t.Fatalf("%+v", x)
		}
	}
}
