package discount

import (
	"math"
	"math/rand"
	"reflect"
	"slices"
	"strconv"
	"testing"

	"billing/api"
	"billing/parser"
	"billing/samples"
)

// parsed returns the expression of a text.
func parsed(t *testing.T, s string) api.Expr {
	t.Helper()
	e, _, err := parser.Expr(s)
	if err != api.OK {
		t.Fatal(s, err)
	}
	return e
}

// The examples of the chapter.
func TestExamples(t *testing.T) {
	list := []api.Discount{{Name: "ten", When: others(), Points: 1000}, {Name: "half", When: others(), Points: 5000}}
	if given, left, err := Apply(list, api.Env{}, 45); !slices.Equal(given, []api.Given{{Name: "ten", Amount: 5}, {Name: "half", Amount: 20}}) || left != 20 || err != api.OK {
		t.Error("10 and 50 percent of 45:", given, left, err)
	}
	if given, left, err := Apply([]api.Discount{{Name: "small", When: others(), Points: 1}}, api.Env{}, 40); len(given) > 0 || left != 40 || err != api.OK {
		t.Error("one point of 40:", given, left, err)
	}
	if env := Env(api.Usage{Start: 60}, "", "", api.Counter{}, false); env != (api.Env{Weekday: 5, Minute: 1}) {
		t.Error("the instant 60:", env)
	}
}

// P31.1: each attribute comes from its own place, and nothing else counts.
func TestEnv(t *testing.T) {
	const start = 3*api.Day + 3725 // a Tuesday, at 01:02:05
	u, c := api.Usage{Kind: 1, Units: 2, Start: start}, api.Counter{Units: 3, Spent: 4}
	want := api.Env{Kind: 1, Units: 2, Weekday: 1, Minute: 62, Total: 3, Spent: 4, Zone: "home", Band: "work", Family: true}
	if env := Env(u, "home", "work", c, true); env != want {
		t.Error(env)
	}
	u = api.Usage{Id: 11, Kind: 1, Account: 12, Sub: 13, A: "49", B: "33", Start: start, Units: 2, Trunk: 14, Inbound: true, Source: 15, Serial: 16}
	if env := Env(u, "home", "work", api.Counter{Sub: 17, Kind: 18, From: 19, Units: 3, Spent: 4}, true); env != want {
		t.Error("with other fields:", env)
	}
	if env := Env(api.Usage{}, "", "", api.Counter{}, false); env != (api.Env{Weekday: 5}) {
		t.Error("nothing:", env)
	}
}

// P31.1: any values are taken as they are.
func TestEnvAnything(t *testing.T) {
	rnd := rand.New(rand.NewSource(311))
	for range 20000 {
		want := someEnv(rnd)
		start := samples.Integer(rnd.Intn)
		want.Weekday, want.Minute = modelClock(start)
		u, c := api.Usage{Kind: want.Kind, Units: want.Units, Start: start}, api.Counter{Units: want.Total, Spent: want.Spent}
		if env := Env(u, want.Zone, want.Band, c, want.Family); env != want {
			t.Fatalf("%+v, not %+v", env, want)
		}
	}
}

// checkClock compares the weekday and the minute of an instant with the model.
func checkClock(t *testing.T, start int) {
	t.Helper()
	env := Env(api.Usage{Start: start}, "", "", api.Counter{}, false)
	if weekday, minute := modelClock(start); env.Weekday != weekday || env.Minute != minute {
		t.Fatal(start, "has", env.Weekday, env.Minute, "and not", weekday, minute)
	}
}

// P31.1: all days at their limits, all seconds of two days, and many other instants.
func TestClock(t *testing.T) {
	for day := range api.MaxDays {
		for _, second := range []int{0, 59, 60, 43199, api.Day - 60, api.Day - 1} {
			checkClock(t, day*api.Day+second)
		}
	}
	for second := range 2 * api.Day {
		checkClock(t, second)
	}
	rnd := rand.New(rand.NewSource(312))
	for range 100000 {
		checkClock(t, rnd.Intn(api.Forever))
	}
}

// P31.1: integers that are no instants have no weekday and no minute.
func TestNoInstant(t *testing.T) {
	for _, start := range []int{-1, -59, -60, -61, -api.Day, -api.Day - 1, -7 * api.Day, math.MinInt, math.MinInt + 1, api.Forever, api.Forever + 60, api.Forever + api.Day, math.MaxInt} {
		if env := Env(api.Usage{Kind: 1, Units: 2, Start: start}, "a", "b", api.Counter{Units: 3, Spent: 4}, true); env != (api.Env{Kind: 1, Units: 2, Weekday: -1, Total: 3, Spent: 4, Zone: "a", Band: "b", Family: true}) {
			t.Error(start, env)
		}
	}
	if env := Env(api.Usage{Start: api.Forever - 1}, "", "", api.Counter{}, false); env != (api.Env{Weekday: 4, Minute: 1439}) {
		t.Error("the last instant:", env)
	}
}

// P31.2: the discounts that apply, in their order, each on what the preceding ones have left.
func TestApply(t *testing.T) {
	yes, no := family(), others()
	for i, x := range []struct {
		list  []api.Discount
		gross int
		given []api.Given
		left  int
	}{
		{nil, 0, nil, 0},
		{nil, 45, nil, 45},
		{[]api.Discount{}, api.MaxAmount, nil, api.MaxAmount},
		{[]api.Discount{{Name: "a", When: yes, Points: 5000}, {Name: "b", When: yes, Points: 1000}}, 45, []api.Given{{Name: "a", Amount: 23}, {Name: "b", Amount: 2}}, 20},
		{[]api.Discount{{Name: "a", When: no, Points: 5000}, {Name: "b", When: yes, Points: 1000}}, 45, []api.Given{{Name: "b", Amount: 5}}, 40},
		{[]api.Discount{{Name: "a", When: yes, Points: 5000}, {Name: "b", When: no, Points: 1000}}, 45, []api.Given{{Name: "a", Amount: 23}}, 22},
		{[]api.Discount{{Name: "a", When: no, Points: 5000}, {Name: "b", When: no, Points: 1000}}, 45, nil, 45},
		// Names may repeat, and are no matter.
		{[]api.Discount{{Name: "", When: yes, Points: 5000}, {Name: "", When: yes, Points: 5000}}, 40, []api.Given{{Name: "", Amount: 20}, {Name: "", Amount: 10}}, 10},
		{[]api.Discount{{Name: "No name\xff", When: yes, Points: 2500}}, 40, []api.Given{{Name: "No name\xff", Amount: 10}}, 30},
		// What is 0 is not listed, wherever it stands.
		{[]api.Discount{{Name: "a", When: yes}, {Name: "b", When: yes, Points: 1000}, {Name: "c", When: yes, Points: 1}, {Name: "d", When: yes, Points: 2000}}, 100, []api.Given{{Name: "b", Amount: 10}, {Name: "d", Amount: 18}}, 72},
		{[]api.Discount{{Name: "a", When: yes, Points: 10000}, {Name: "b", When: yes, Points: 10000}}, 7, []api.Given{{Name: "a", Amount: 7}}, 0},
		{[]api.Discount{{Name: "a", When: yes, Points: 10000}}, 0, nil, 0},
		// Halves are rounded up, and what is less is rounded down.
		{[]api.Discount{{Name: "a", When: yes, Points: 5000}}, 1, []api.Given{{Name: "a", Amount: 1}}, 0},
		{[]api.Discount{{Name: "a", When: yes, Points: 4999}}, 1, nil, 1},
		{[]api.Discount{{Name: "a", When: yes, Points: 1}}, 4999, nil, 4999},
		{[]api.Discount{{Name: "a", When: yes, Points: 1}}, 5000, []api.Given{{Name: "a", Amount: 1}}, 4999},
		{[]api.Discount{{Name: "a", When: yes, Points: 9999}}, 5000, []api.Given{{Name: "a", Amount: 5000}}, 0},
		{[]api.Discount{{Name: "a", When: yes, Points: 10000}}, api.MaxAmount, []api.Given{{Name: "a", Amount: api.MaxAmount}}, 0},
	} {
		if given, left, err := Apply(x.list, api.Env{Family: true}, x.gross); !slices.Equal(given, x.given) || left != x.left || err != api.OK {
			t.Error("case", i, given, left, err)
		}
	}
}

// P31.2: a discount applies if its condition holds; one that is no valid truth never does, and neither does its negation.
func TestConditions(t *testing.T) {
	u := api.Usage{Kind: api.KindVoice, Units: 61, Start: api.Day + 600}
	env := Env(u, "home", "free", api.Counter{Units: 1000, Spent: 77}, false)
	for s, want := range map[string]bool{
		"kind = 1": true, "kind = 2": false, "units > 60": true, "units > 61": false, "weekday = 6": true, "weekday < 6": false, "minute = 10": true, "minute <> 10": false,
		"total >= 1000": true, "total > 1000": false, "spent = 77": true, "spent < 77": false, `zone = "home"`: true, `zone = "free"`: false, `band = "free"`: true, `band = "home"`: false,
		"family": false, "not family": true, "weekday >= 5 and minute < 60": true, "weekday < 5 or family": false, "units / kind = 61": true, "units / (kind - 1) = 61": false, "not units / (kind - 1) = 61": true,
		"units": false, "zone": false, "units + 1": false,
	} {
		given, left, err := Apply([]api.Discount{{Name: "a", When: parsed(t, s), Points: 1000}}, env, 100)
		if want != (left == 90) || want != (len(given) == 1) || left != 90 && left != 100 || err != api.OK {
			t.Error(s, given, left, err)
		}
	}
	yes := samples.Negations(others(), 1)
	for i, e := range []api.Expr{{}, {Op: api.OpNot}, {Op: api.Ops}, {Op: -1}, {Op: api.OpName, Text: "colour"}, {Op: api.OpNumber, Num: 1}, {Op: api.OpText, Text: "a"}, {Op: api.OpAnd, Args: []api.Expr{yes}}, {Op: api.OpEqual, Args: []api.Expr{yes, yes}}, samples.Negations(yes, 16), samples.Negations(yes, 60000)} {
		for _, e := range []api.Expr{e, samples.Negations(e, 1)} {
			if given, left, err := Apply([]api.Discount{{Name: "a", When: e, Points: 1000}}, env, 100); len(given) > 0 || left != 100 || err != api.OK {
				t.Error("case", i, given, left, err)
			}
		}
	}
}

// P31.2: one discount of all points, of small amounts and of those at the limits.
func TestShares(t *testing.T) {
	amounts := []int{0, 1, 2, 3, 4, 5, 9, 45, 100, 4999, 5000, 5001, 9999, 10000, 10001, 123456789, api.MaxAmount - 1, api.MaxAmount}
	for points := range 10001 {
		list := []api.Discount{{Name: "a", When: family(), Points: points}}
		for _, gross := range amounts {
			share := modelShare(gross, points)
			given, left, err := Apply(list, api.Env{Family: true}, gross)
			if left != gross-share || err != api.OK || (len(given) == 0) != (share == 0) || len(given) > 0 && !slices.Equal(given, []api.Given{{Name: "a", Amount: share}}) {
				t.Fatal(points, "of", gross, given, left, err)
			}
		}
	}
}

// P31.2: the errors, with nothing beside them.
func TestApplyErrors(t *testing.T) {
	valid, apart := api.Discount{Name: "a", When: family(), Points: 1000}, api.Discount{Name: "b", When: others(), Points: 10001}
	for _, gross := range []int{-1, -5000, -api.MaxAmount, api.MaxAmount + 1, math.MinInt, math.MaxInt} {
		for _, list := range [][]api.Discount{nil, {valid}, {apart}, {{When: family(), Points: -1}}} {
			if given, left, err := Apply(list, api.Env{Family: true}, gross); len(given) > 0 || left != 0 || err != api.ErrRange {
				t.Error(gross, given, left, err)
			}
		}
	}
	for _, points := range []int{-1, 10001, -10000, math.MinInt, math.MaxInt} {
		wrong := api.Discount{Name: "c", When: family(), Points: points}
		all := api.Discount{Name: "d", When: family(), Points: 10000}
		for i, list := range [][]api.Discount{{wrong}, {valid, wrong}, {wrong, valid}, {apart, wrong}, {valid, valid, wrong, valid}, {all, wrong}} {
			for _, gross := range []int{0, 1, 45, api.MaxAmount} {
				if given, left, err := Apply(list, api.Env{Family: true}, gross); len(given) > 0 || left != 0 || err != api.ErrRange {
					t.Error("points", points, "list", i, "of", gross, given, left, err)
				}
			}
		}
		// What does not apply has no error.
		list := []api.Discount{wrong, {Name: "e", When: others(), Points: 1000}, wrong}
		if given, left, err := Apply(list, api.Env{}, 45); !slices.Equal(given, []api.Given{{Name: "e", Amount: 5}}) || left != 40 || err != api.OK {
			t.Error("points", points, "that do not apply:", given, left, err)
		}
	}
}

// P31.2, with R5: random discounts against the model.
func TestModel(t *testing.T) {
	rnd := rand.New(rand.NewSource(313))
	found, long := map[api.Errno]int{}, map[int]int{}
	for range 30000 {
		list, env, gross := someDiscounts(rnd, true), someEnv(rnd), someGross(rnd)
		if rnd.Intn(30) == 0 {
			gross = samples.Integer(rnd.Intn)
		}
		list = append(list, api.Discount{Name: "spare"})
		argument := duplicate(list)
		want, wantLeft, wantErr := modelApply(list[:len(list)-1], env, gross)
		got, left, err := Apply(argument[:len(list)-1], env, gross)
		if !slices.Equal(got, want) || left != wantLeft || err != wantErr {
			t.Fatalf("Apply(%+v, %+v, %d) = %v, %d, %v, not %v, %d, %v", list, env, gross, got, left, err, want, wantLeft, wantErr)
		}
		if !reflect.DeepEqual(argument, list) {
			t.Fatal("the list has changed")
		}
		found[err]++
		long[min(len(got), 3)]++
	}
	if found[api.OK] < 20000 || found[api.ErrRange] < 1000 || long[0] < 1000 || long[1] < 1000 || long[2] < 1000 || long[3] < 1000 {
		t.Error(found, long)
	}
}

// P31.3: what is given and what remains add up, nothing is negative, and nothing given is 0.
func TestSums(t *testing.T) {
	rnd := rand.New(rand.NewSource(314))
	for range 30000 {
		list, env, gross := someDiscounts(rnd, false), someEnv(rnd), someGross(rnd)
		given, left, err := Apply(list, env, gross)
		sum := left
		for _, g := range given {
			if g.Amount <= 0 {
				t.Fatal(given)
			}
			sum += g.Amount
		}
		if sum != gross || left < 0 || err != api.OK {
			t.Fatalf("Apply(%+v, %+v, %d) = %v, %d, %v", list, env, gross, given, left, err)
		}
		list = append(list, api.Discount{Name: "all", When: samples.Negations(family(), 2), Points: 10000})
		env.Family = true
		if _, left, err := Apply(list, env, gross); left != 0 || err != api.OK {
			t.Fatalf("%d of %d remain of %+v: %v", left, gross, list, err)
		}
	}
}

// P31.2: there is no limit to the number of discounts.
func TestManyDiscounts(t *testing.T) {
	var list []api.Discount
	for i := range 5000 {
		list = append(list, api.Discount{Name: strconv.Itoa(i), When: family(), Points: 1})
	}
	want, wantLeft, _ := modelApply(list, api.Env{Family: true}, api.MaxAmount)
	given, left, err := Apply(list, api.Env{Family: true}, api.MaxAmount)
	if len(given) != 5000 || !slices.Equal(given, want) || left != wantLeft || err != api.OK {
		t.Error(len(given), left, err)
	}
	clear(given)
	if again, _, _ := Apply(list, api.Env{Family: true}, api.MaxAmount); !slices.Equal(again, want) {
		t.Error("the result shares memory with another one")
	}
}

// R1: conditions that contain themselves never hold.
func TestEndless(t *testing.T) {
	args := make([]api.Expr, 2)
	endless := api.Expr{Op: api.OpAnd, Args: args}
	args[0], args[1] = endless, endless
	list := []api.Discount{{Name: "a", When: endless, Points: 1000}, {Name: "b", When: samples.Negations(endless, 1), Points: 1000}}
	if given, left, err := Apply(list, api.Env{Family: true}, 100); len(given) > 0 || left != 100 || err != api.OK {
		t.Error(given, left, err)
	}
}
