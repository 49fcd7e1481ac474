package tariff

import (
	"math"
	"math/rand"
	"reflect"
	"slices"
	"strconv"
	"testing"

	"billing/api"
	"billing/checker"
	"billing/samples"
)

// invalid returns tariffs with each error of checker.Tariff.
func invalid() []api.Tariff {
	var list []api.Tariff
	for _, change := range []func(t *api.Tariff){
		func(t *api.Tariff) { t.Name = "" },
		func(t *api.Tariff) { t.Name = "Basic" },
		func(t *api.Tariff) { t.From = -1 },
		func(t *api.Tariff) { t.From = api.Forever },
		func(t *api.Tariff) { t.Zones = []api.Zone{{Name: "home", Prefixes: []string{"+49"}}} },
		func(t *api.Tariff) { t.Bands = nil },
		func(t *api.Tariff) { t.Bands = []api.Band{{Name: "all"}, {Name: "all"}} },
		func(t *api.Tariff) { t.Rates = slices.Repeat(t.Rates, 65) },
		func(t *api.Tariff) { t.Rates[0].Kind = 0 },
		func(t *api.Tariff) { t.Rates[0].Zone = "nowhere" },
		func(t *api.Tariff) { t.Rates[0].Setup = -1 },
		func(t *api.Tariff) {
			t.Rates[0].Steps = []api.Step{{Upto: 2, Quantum: 1}, {Upto: 1, Quantum: 1}, {Quantum: 1}}
		},
		func(t *api.Tariff) { t.Discounts = []api.Discount{{Name: "a", Points: 1}} },
		func(t *api.Tariff) { t.Discounts = slices.Repeat([]api.Discount{{Name: "a", When: negations(0)}}, 2) },
		func(t *api.Tariff) { t.Discounts = []api.Discount{{Name: "a", When: negations(16)}} },
	} {
		t := plain("b", 50, 1)
		change(&t)
		list = append(list, t)
	}
	return list
}

// negations returns a valid truth in so many negations.
func negations(count int) api.Expr {
	return samples.Negations(api.Expr{Op: api.OpName, Text: "family"}, count)
}

// P28.1: the errors of a tariff alone, in front of another one and behind it, in its order or not.
func TestCheckTariffs(t *testing.T) {
	found := map[api.Errno]int{}
	for _, x := range invalid() {
		want := checker.Tariff(x)
		found[want]++
		if want == api.OK {
			t.Errorf("%+v is valid", x)
		}
		for _, list := range [][]api.Tariff{{x}, {x, plain("c", 0, 1)}, {x, plain("a", 0, 1)}, {x, x}, {plain("a", 0, 1), x}, {plain("c", 0, 1), x}, {plain("b", 50, 1), x}, {x, invalid()[2]}} {
			if err := Check(list); err != want {
				t.Errorf("Check(%+v) = %v, not %v", list, err, want)
			}
		}
		// What is not in order comes before what is behind it.
		if err := Check([]api.Tariff{plain("a", 1, 1), plain("a", 1, 1), x}); err != api.ErrOrder {
			t.Error(err)
		}
	}
	for _, err := range []api.Errno{api.ErrInvalid, api.ErrTime, api.ErrNumber, api.ErrExists, api.ErrTooLong, api.ErrKind, api.ErrNotFound, api.ErrRange, api.ErrOrder, api.ErrDepth} {
		if found[err] == 0 {
			t.Error("no tariff has the error", err)
		}
	}
}

// P28.1: the order of two tariffs.
func TestCheckOrder(t *testing.T) {
	for i, x := range []struct {
		first, second string
		from, next    int
		want          api.Errno
	}{
		{"a", "b", 5, 5, api.OK}, {"a", "b", 5, 0, api.OK}, {"b", "a", 5, 6, api.ErrOrder}, {"b", "a", 5, 5, api.ErrOrder},
		{"a", "a", 5, 6, api.OK}, {"a", "a", 5, 5, api.ErrOrder}, {"a", "a", 5, 4, api.ErrOrder}, {"a", "a", 0, api.Forever - 1, api.OK},
		{"a", "aa", 5, 5, api.OK}, {"aa", "b", 5, 5, api.OK}, {"aa", "a", 5, 6, api.ErrOrder},
		{"a-", "a0", 5, 5, api.OK}, {"a0", "aa", 5, 5, api.OK}, {"a0", "a-", 5, 6, api.ErrOrder}, {"a9", "a10", 5, 6, api.ErrOrder}, {"any", "from", 5, 5, api.OK},
	} {
		p, q := plain(x.first, x.from, 1), plain(x.second, x.next, 2)
		for _, list := range [][]api.Tariff{{p, q}, {p, q, plain("z", 0, 3)}} {
			if err := Check(list); err != x.want {
				t.Error("case", i, err)
			}
		}
	}
	if err := Check([]api.Tariff{plain("a", 1, 1), plain("b", 1, 1), plain("a", 2, 1)}); err != api.ErrOrder {
		t.Error("the last one:", err)
	}
}

// full returns a list of as many tariffs as possible, with even Froms.
func full() []api.Tariff {
	var list []api.Tariff
	for i := range 4096 {
		list = append(list, plain("basic", 2*i, i))
	}
	return list
}

// P28.1: the number of tariffs.
func TestCheckLength(t *testing.T) {
	list := full()
	if err := Check(list); err != api.OK {
		t.Error("as many as possible:", err)
	}
	if err := Check(append(list, plain("plus", 0, 1))); err != api.ErrTooLong {
		t.Error("too many:", err)
	}
	list[4095].Name = "-"
	if err := Check(list); err != api.ErrInvalid {
		t.Error("the last one:", err)
	}
	list[0].From = -1
	if err := Check(list); err != api.ErrTime {
		t.Error("the first one:", err)
	}
	if err := Check(append(list, plain("plus", 0, 1))); err != api.ErrTooLong {
		t.Error("too many, of which one is not valid:", err)
	}
	for _, none := range [][]api.Tariff{nil, {}} {
		if err := Check(none); err != api.OK {
			t.Error("none:", err)
		}
	}
}

// P28.1, with R5: lists with several errors, against the model.
func TestCheckLists(t *testing.T) {
	rnd := rand.New(rand.NewSource(281))
	faults := invalid()
	found := map[api.Errno]int{}
	for range 10000 {
		var list []api.Tariff
		for i := range rnd.Intn(5) {
			x := samples.ValidTariff(rnd.Intn)
			if rnd.Intn(10) == 0 {
				x = faults[rnd.Intn(len(faults))]
			} else {
				x.Name, x.From = "a"+strconv.Itoa(i/2), 10*i
			}
			if rnd.Intn(8) == 0 {
				x.Name, x.From = "a"+strconv.Itoa(rnd.Intn(4)), 10*rnd.Intn(5)
			}
			list = append(list, x)
		}
		want, given := modelCheck(list), duplicate(list)
		if err := Check(list); err != want {
			t.Fatalf("Check(%+v) = %v, not %v", list, err, want)
		}
		if !reflect.DeepEqual(list, given) {
			t.Fatal("the argument has changed")
		}
		found[want]++
	}
	for _, err := range []api.Errno{api.OK, api.ErrInvalid, api.ErrTime, api.ErrNumber, api.ErrExists, api.ErrTooLong, api.ErrKind, api.ErrNotFound, api.ErrRange, api.ErrOrder, api.ErrDepth} {
		if found[err] < 20 {
			t.Error("the error", err, "only", found[err])
		}
	}
}

// price returns the price of the version of a name at an instant, or -1.
func price(list []api.Tariff, name string, at int) int {
	t, has := At(list, name, at)
	if !has {
		return -1
	}
	return t.Rates[0].Steps[0].Price
}

// The examples of the chapter, and instants at the limits of other versions.
func TestExamples(t *testing.T) {
	list := []api.Tariff{plain("aa", 500, 7), plain("basic", 0, 1), plain("basic", 1000, 2), plain("plus", 500, 8)}
	replaced, err := Replace(list, plain("basic", 500, 3))
	if err != api.OK || len(replaced) != 5 {
		t.Fatal(len(replaced), err)
	}
	for at, want := range map[int]int{-1: -1, 0: 1, 1: 1, 499: 1, 999: 1, 1000: 2, 1001: 2, api.Forever: 2, math.MaxInt: 2, math.MinInt: -1} {
		if got := price(list, "basic", at); got != want {
			t.Error("at", at, got)
		}
		if at >= 500 && at <= 999 {
			want = 3
		}
		if got := price(replaced, "basic", at); got != want {
			t.Error("replaced, at", at, got)
		}
	}
	if price(replaced, "basic", 500) != 3 || price(list, "basic", 500) != 1 {
		t.Error("at 500")
	}
	for _, x := range []struct {
		from, to int
		want     []int
	}{
		{0, 1000, []int{0}}, {0, 1001, []int{0, 1000}}, {1, 1001, []int{1000}}, {1, 1000, nil}, {1000, 1001, []int{1000}}, {1001, api.Forever, nil}, {0, api.Forever, []int{0, 1000}}, {0, 1, []int{0}},
		{0, 0, nil}, {1000, 1000, nil}, {1001, 0, nil}, {-1, 1001, nil}, {0, api.Forever + 1, nil}, {math.MinInt, math.MaxInt, nil},
	} {
		if got := Changes(list, "basic", api.Period{From: x.from, To: x.to}); !slices.Equal(got, x.want) {
			t.Error(x.from, x.to, got)
		}
	}
	for _, name := range []string{"", "a", "b", "basi", "basic-", "basics", "Basic", "z"} {
		if price(list, name, 2000) != -1 || len(Changes(list, name, api.Period{From: 0, To: 2000})) > 0 {
			t.Errorf("%q", name)
		}
	}
}

// P28.2, P28.3, with R3 and R5: lists that are ascending, of tariffs that may not be valid, and any integers.
func TestAt(t *testing.T) {
	rnd := rand.New(rand.NewSource(282))
	found := map[bool]int{}
	for range 150 {
		list := someList(rnd, samples.VersionNames(), samples.Integer)
		given := duplicate(list)
		for _, at := range moments(list) {
			for _, name := range append(samples.VersionNames(), "b", "basics") {
				x, has := At(given, name, at)
				i := modelAt(list, name, at)
				if has != (i >= 0) || has && !reflect.DeepEqual(x, list[i]) || !has && !reflect.DeepEqual(x, api.Tariff{}) {
					t.Fatalf("At(%+v, %q, %d) = %+v, %v", list, name, at, x, has)
				}
				if has && rnd.Intn(20) == 0 && !apart(x, given) {
					t.Fatalf("At(%+v, %q, %d) shares memory", list, name, at)
				}
				found[has]++
			}
		}
		if !reflect.DeepEqual(given, list) {
			t.Fatal("the argument has changed")
		}
	}
	if found[true] < 5000 || found[false] < 5000 {
		t.Error(found)
	}
}

// shared returns a valid tariff whose parts share memory with one another, and some of whose empty lists have spare capacity.
func shared() api.Tariff {
	steps := []api.Step{{Upto: 60, Quantum: 60, Price: 1000}, {Quantum: 1, Price: 20}}
	slots := []api.Slot{{Days: 31, From: 480, To: 1080}}
	both := []api.Expr{{Op: api.OpName, Text: "family", Args: make([]api.Expr, 0, 2)}, negations(1)}
	when := api.Expr{Op: api.OpOr, Args: []api.Expr{{Op: api.OpAnd, Args: both}, {Op: api.OpOr, Args: both}}}
	return api.Tariff{
		Name: "basic", From: 500,
		Zones:     []api.Zone{{Name: "home", Prefixes: []string{"49"}}, {Name: "mobile", Prefixes: []string{"4915"}}},
		Bands:     []api.Band{{Name: "work", Slots: slots}, {Name: "other", Slots: slots}, {Name: "free", Slots: make([]api.Slot, 0, 2)}},
		Rates:     []api.Rate{{Kind: 1, Steps: steps}, {Kind: 2, Steps: steps}},
		Discounts: []api.Discount{{Name: "a", When: when, Points: 1}, {Name: "b", When: when, Points: 2}},
	}
}

// R5: no two lists of a result share memory, whatever the argument shares, and neither do result and argument.
func TestMemory(t *testing.T) {
	list := []api.Tariff{shared(), shared()}
	list[1].From, list[1].Rates, list[1].Discounts = 1000, list[0].Rates, list[0].Discounts
	other := shared()
	other.From, other.Zones = 700, list[0].Zones
	x, has := At(list, "basic", 500)
	if !has || !reflect.DeepEqual(x, shared()) || !apart(x, list) {
		t.Errorf("At: %+v", x)
	}
	for _, from := range []int{0, 500, 700, 1000, 2000} {
		other.From = from
		want, _ := modelReplace(list, other)
		result, err := Replace(list, other)
		if err != api.OK || !reflect.DeepEqual(result, want) || !apart(result, list) || !apart(result, other) {
			t.Errorf("Replace: %+v, %v", result, err)
		}
	}
	changes := Changes(list, "basic", api.Period{From: 0, To: api.Forever})
	if !slices.Equal(changes, []int{500, 1000}) || !apart(changes, list) {
		t.Error(changes)
	}
}

// P28.3: any lists, also those that are in no order and have tariffs twice.
func TestChanges(t *testing.T) {
	rnd := rand.New(rand.NewSource(283))
	long := map[int]int{}
	for range 5000 {
		var list []api.Tariff
		for range rnd.Intn(20) {
			list = append(list, api.Tariff{Name: samples.VersionNames()[rnd.Intn(3)], From: samples.Integer(rnd.Intn)})
		}
		given := duplicate(list)
		for range 5 {
			p := api.Period{From: rnd.Intn(10), To: 5 + rnd.Intn(20)}
			if rnd.Intn(5) == 0 {
				p = api.Period{From: samples.Integer(rnd.Intn), To: samples.Integer(rnd.Intn)}
			}
			name := samples.VersionNames()[rnd.Intn(4)]
			got, want := Changes(given, name, p), modelChanges(list, name, p)
			if !slices.Equal(got, want) {
				t.Fatalf("Changes(%+v, %q, %v) = %v, not %v", list, name, p, got, want)
			}
			long[len(want)]++
		}
		if !reflect.DeepEqual(given, list) {
			t.Fatal("the argument has changed")
		}
	}
	if long[0] < 1000 || long[1] < 1000 || long[2] < 500 || long[3] < 100 {
		t.Error(long)
	}
}

// P28.6: from each change of a period up to the next one, and to its end, the version is the one that begins there; before the first one it is that of the beginning.
func TestBetweenChanges(t *testing.T) {
	rnd := rand.New(rand.NewSource(286))
	checked := 0
	for range 5000 {
		list := someList(rnd, []string{"a", "b", "c"}, samples.Instant)
		p := api.Period{From: rnd.Intn(15), To: 15 + rnd.Intn(10)}
		if rnd.Intn(3) == 0 {
			p.To = api.Forever
		}
		limits := append([]int{p.From}, Changes(list, "b", p)...)
		limits = append(limits, p.To)
		for i := 1; i < len(limits); i++ {
			first, has := At(list, "b", limits[i-1])
			if i > 1 && (!has || first.From != limits[i-1]) {
				t.Fatalf("%+v, %v: no change at %d", list, p, limits[i-1])
			}
			for _, at := range moments(list) {
				if at >= limits[i-1] && at < limits[i] {
					x, had := At(list, "b", at)
					if had != has || !reflect.DeepEqual(x, first) {
						t.Fatalf("%+v, %v: a change at %d", list, p, at)
					}
					checked++
				}
			}
		}
	}
	if checked < 10000 {
		t.Error("only", checked)
	}
}

// checkReplace compares Replace with the model, and returns the result.
func checkReplace(t *testing.T, list []api.Tariff, x api.Tariff) ([]api.Tariff, api.Errno) {
	t.Helper()
	given, same := duplicate(list), duplicate([]api.Tariff{x})
	want, wanted := modelReplace(list, x)
	result, err := Replace(list, x)
	if err != wanted || len(result) != len(want) || len(want) > 0 && !reflect.DeepEqual(result, want) {
		t.Fatalf("Replace(%.2000v, %+v) = %.2000v, %v, not %.2000v, %v", list, x, result, err, want, wanted)
	}
	if !reflect.DeepEqual(list, given) || !reflect.DeepEqual(x, same[0]) {
		t.Fatal("an argument has changed")
	}
	return result, err
}

// P28.4, P28.5: valid lists and tariffs, before, between, behind and in the place of others.
func TestReplace(t *testing.T) {
	rnd := rand.New(rand.NewSource(284))
	found := map[int]int{}
	for range 1500 {
		names := []string{"a", "a-1", "a1", "aa", "basic"}
		list := slices.DeleteFunc(someList(rnd, names, samples.Instant), func(x api.Tariff) bool { return checker.Tariff(x) != api.OK })
		x := samples.ValidTariff(rnd.Intn)
		x.Name, x.From = append(names, "0", "b")[rnd.Intn(len(names)+2)], samples.Instant(rnd.Intn)
		if rnd.Intn(4) == 0 && len(list) > 0 {
			same := list[rnd.Intn(len(list))]
			x.Name, x.From = same.Name, same.From
		}
		result, err := checkReplace(t, list, x)
		if err != api.OK {
			continue
		}
		found[len(result)-len(list)]++
		if Check(result) != api.OK || rnd.Intn(20) == 0 && !(apart(result, list) && apart(result, x)) {
			t.Fatalf("Replace(%+v, %+v) = %+v", list, x, result)
		}
		next := api.Forever
		for _, y := range list {
			if y.Name == x.Name && y.From > x.From {
				next = min(next, y.From)
			}
		}
		for _, name := range append(names, "b") {
			for _, at := range moments(result) {
				want, had := At(list, name, at)
				if name == x.Name && at >= x.From && (at < next || next == api.Forever) {
					want, had = x, true
				}
				if got, has := At(result, name, at); has != had || !reflect.DeepEqual(got, want) {
					t.Fatalf("At(%+v, %q, %d) after replacing by %+v: %+v, %v", list, name, at, x, got, has)
				}
			}
		}
	}
	if found[0] < 200 || found[1] < 500 {
		t.Error(found)
	}
}

// P28.4: the errors, and the first one of several.
func TestReplaceErrors(t *testing.T) {
	good := []api.Tariff{plain("a", 0, 1), plain("b", 10, 1)}
	for _, x := range invalid() {
		if _, err := checkReplace(t, good, x); err != checker.Tariff(x) {
			t.Errorf("%+v: %v", x, err)
		}
		if _, err := checkReplace(t, []api.Tariff{good[1], good[0]}, x); err != api.ErrOrder {
			t.Errorf("%+v in a list that is not valid: %v", x, err)
		}
		if _, err := checkReplace(t, []api.Tariff{x}, plain("a", 0, 1)); err != checker.Tariff(x) {
			t.Errorf("%+v in the list: %v", x, err)
		}
		// A list is not valid even if the tariff that is not would be replaced.
		if _, err := checkReplace(t, []api.Tariff{x}, plain(x.Name, x.From, 1)); err != checker.Tariff(x) {
			t.Errorf("%+v in its own place: %v", x, err)
		}
	}
	if list, err := checkReplace(t, nil, plain("a", 5, 1)); len(list) != 1 || err != api.OK {
		t.Error("in an empty list:", list, err)
	}
}

// P28.4: lists of as many tariffs as possible, of one less, and of one more.
func TestReplaceLength(t *testing.T) {
	list := full()
	for _, x := range []struct {
		count, from int
		err         api.Errno
	}{
		{4096, 0, api.OK}, {4096, 100, api.OK}, {4096, 8190, api.OK}, {4096, 1, api.ErrTooLong}, {4096, 101, api.ErrTooLong}, {4096, 8191, api.ErrTooLong}, {4096, -1, api.ErrTime},
		{4095, 0, api.OK}, {4095, 1, api.OK}, {4095, 8190, api.OK}, {4095, 8191, api.OK},
	} {
		result, err := checkReplace(t, list[:x.count], plain("basic", x.from, 9))
		if err != x.err || err == api.OK && (len(result) < 4095 || price(result, "basic", x.from) != 9) {
			t.Error(x, len(result), err)
		}
	}
	if _, err := checkReplace(t, append(list, plain("plus", 0, 1)), plain("basic", -1, 9)); err != api.ErrTooLong {
		t.Error("too many:", err)
	}
	if list[4095].From != 8190 {
		t.Error("the list has changed")
	}
}

// R1, P28.2: expressions of a tariff that is not valid, which are deep or contain themselves, are returned as they are.
func TestDeep(t *testing.T) {
	one, two, part := make([]api.Expr, 1), make([]api.Expr, 3), make([]api.Expr, 2)
	part[0], part[1] = api.Expr{Op: api.OpNot, Args: part[:1]}, negations(2)
	one[0] = api.Expr{Op: api.OpNot, Args: one}
	two[0], two[1], two[2] = api.Expr{Op: api.OpAnd, Args: two[1:]}, api.Expr{Op: api.OpOr, Args: two[:2]}, negations(3)
	for i, e := range []api.Expr{negations(16), negations(60000), one[0], two[0], {Op: api.OpAnd, Args: part}} {
		x := plain("b", 10, 1)
		x.Discounts = []api.Discount{{Name: "a", When: e}}
		list := []api.Tariff{plain("a", 20, 2), x, plain("b", 30, 3)}
		got, has := At(list, "b", 29)
		if !has || !reflect.DeepEqual(got, x) || &got.Discounts[0].When.Args[0] == &e.Args[0] {
			t.Error("case", i)
		}
		if err := Check(list); err != api.ErrDepth {
			t.Error("case", i, err)
		}
		if result, err := Replace(list, plain("c", 0, 1)); err != api.ErrDepth || result != nil {
			t.Error("case", i, err)
		}
		if result, err := Replace(nil, x); err != api.ErrDepth || result != nil {
			t.Error("case", i, err)
		}
	}
}

// R1: lists that are in no order.
func TestAnything(t *testing.T) {
	rnd := rand.New(rand.NewSource(289))
	for range 1000 {
		list := someList(rnd, samples.VersionNames(), samples.Integer)
		rnd.Shuffle(len(list), func(i, j int) { list[i], list[j] = list[j], list[i] })
		Check(list)
		for _, name := range samples.VersionNames() {
			n := samples.Integer(rnd.Intn)
			At(list, name, n)
			Changes(list, name, api.Period{From: n, To: samples.Integer(rnd.Intn)})
			Replace(list, plain(name, n, 1))
		}
	}
}
