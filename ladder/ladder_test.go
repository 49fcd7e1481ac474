package ladder

import (
	"math"
	"math/rand"
	"testing"

	"billing/api"
	"billing/checker"
	"billing/samples"
)

// The examples of the chapter.
func TestExamples(t *testing.T) {
	l := minutes()
	for n, want := range map[int]int{0: 0, 1: 1000, 30: 1000, 60: 1000, 61: 1020, 62: 1040, 100: 1800} {
		if price, err := Price(l, n); price != want || err != api.OK {
			t.Error("Price", n, price, err)
		}
	}
	for i, x := range []struct{ from, n, want int }{{50, 20, 200}, {0, 100, 1800}, {50, 10, 0}, {50, 11, 20}, {60, 1, 20}, {50, 0, 0}, {0, 0, 0}} {
		if price, err := Between(l, x.from, x.n); price != x.want || err != api.OK {
			t.Error("Between", i, price, err)
		}
	}
	for i, x := range []struct{ from, amount, want int }{{0, 1019, 60}, {0, 1020, 61}, {0, 1000, 60}, {0, 999, 0}, {50, 0, 10}, {50, -1, 0}, {60, 19, 0}, {60, 20, 1}} {
		if n := Units(l, x.from, x.amount); n != x.want {
			t.Error("Units", i, n)
		}
	}
	for from, want := range map[int]int{0: 1000, 1: 0, 59: 0, 60: 20, 61: 20, api.MaxUnits - 1: 20, api.MaxUnits: 0, -1: 0} {
		if price := Marginal(l, from); price != want {
			t.Error("Marginal", from, price)
		}
	}
}

// P29.1: each unit begins a new block of its step or none, for all ladders of up to three steps with small numbers.
func TestPriceOfUnits(t *testing.T) {
	count := 0
	for _, ends := range [][]int{{0}, {1, 0}, {2, 0}, {3, 0}, {7, 0}, {1, 2, 0}, {2, 3, 0}, {1, 5, 0}, {4, 9, 0}} {
		for code := range 64 {
			var l []api.Step
			for i, end := range ends {
				l = append(l, step(end, 1+code>>(2*i)&3, []int{5, 70, 900}[i]))
			}
			sum, at, used := 0, 0, 0
			for n := range 25 {
				if price, err := Price(l, n); price != sum || err != api.OK {
					t.Fatalf("Price(%v, %d) = %d, %v, not %d", l, n, price, err, sum)
				}
				count++
				// The next unit.
				if n == l[at].Upto && at < len(l)-1 {
					at, used = at+1, 0
				}
				if used%l[at].Quantum == 0 {
					sum += l[at].Price
				}
				used++
			}
		}
	}
	if count != 9*64*25 {
		t.Error(count)
	}
}

// P29.1: a step whose units end in the middle of a block, and units that begin in the next step.
func TestPriceOfBegunBlocks(t *testing.T) {
	l := []api.Step{step(10, 4, 7), step(20, 3, 5), step(0, 100, 1)}
	for n, want := range map[int]int{4: 7, 5: 14, 8: 14, 9: 21, 10: 21, 11: 26, 13: 26, 14: 31, 17: 36, 19: 36, 20: 41, 21: 42, 120: 42, 121: 43} {
		if price, err := Price(l, n); price != want || err != api.OK {
			t.Error(n, price, err)
		}
	}
}

// P29.1: the limits of units and of the sum.
func TestPriceLimits(t *testing.T) {
	for i, x := range []struct {
		l       []api.Step
		n, want int
		err     api.Errno
	}{
		{minutes(), -1, 0, api.ErrRange}, {minutes(), api.MaxUnits + 1, 0, api.ErrRange}, {minutes(), math.MinInt, 0, api.ErrRange}, {minutes(), math.MaxInt, 0, api.ErrRange},
		{minutes(), api.MaxUnits, 1000 + 20*(api.MaxUnits-60), api.OK},
		{[]api.Step{step(0, 1, api.MaxAmount)}, 0, 0, api.OK}, {[]api.Step{step(0, 1, api.MaxAmount)}, 1, api.MaxAmount, api.OK}, {[]api.Step{step(0, 1, api.MaxAmount)}, 2, 0, api.ErrRange},
		{[]api.Step{step(0, 1, api.MaxAmount)}, api.MaxUnits, 0, api.ErrRange}, {[]api.Step{step(0, 1, 1<<24)}, api.MaxUnits, 0, api.ErrRange}, // 2^90 and 2^64
		{[]api.Step{step(0, 1, 1024)}, api.MaxUnits, api.MaxAmount, api.OK}, {[]api.Step{step(0, 1, 1025)}, api.MaxUnits, 0, api.ErrRange},
		{[]api.Step{step(0, api.MaxUnits, api.MaxAmount)}, api.MaxUnits, api.MaxAmount, api.OK}, {[]api.Step{step(0, api.MaxUnits-1, api.MaxAmount)}, api.MaxUnits, 0, api.ErrRange}, {[]api.Step{step(0, api.MaxUnits-1, api.MaxAmount/2)}, api.MaxUnits, api.MaxAmount, api.OK},
		{[]api.Step{step(1, 1, api.MaxAmount), step(0, 1, 0)}, api.MaxUnits, api.MaxAmount, api.OK}, {[]api.Step{step(1, 1, api.MaxAmount), step(0, 1, 1)}, 2, 0, api.ErrRange}, {[]api.Step{step(1, 1, api.MaxAmount), step(0, 1, 1)}, 1, api.MaxAmount, api.OK},
		{[]api.Step{step(api.MaxUnits, 1, 0), step(0, 1, api.MaxAmount)}, api.MaxUnits, 0, api.OK}, {[]api.Step{step(api.MaxUnits-1, 1, 0), step(0, 1, 7)}, api.MaxUnits, 7, api.OK},
		{[]api.Step{step(1, 1, api.MaxAmount), step(2, 1, api.MaxAmount), step(0, 1, api.MaxAmount)}, 3, 0, api.ErrRange},
	} {
		if price, err := Price(x.l, x.n); price != x.want || err != x.err {
			t.Error("case", i, price, err)
		}
	}
}

// P29.1 to P29.4, with R5: random ladders, at all of their limits, against the models.
func TestModels(t *testing.T) {
	rnd := rand.New(rand.NewSource(291))
	mark := step(1, 2, 3)
	found := map[api.Errno]int{}
	for range 300 {
		original := anyLadder(rnd)
		l, points := samples.Spare(original, mark), limits(original)
		for _, from := range points {
			price, err := Price(l, from)
			if want, wanted := modelPrice(original, from); price != want || err != wanted {
				t.Fatalf("Price(%v, %d) = %d, %v, not %d, %v", original, from, price, err, want, wanted)
			}
			one, _ := modelBetween(original, from, 1)
			if price := Marginal(l, from); price != one {
				t.Fatalf("Marginal(%v, %d) = %d, not %d", original, from, price, one)
			}
			for _, n := range append(points, points[rnd.Intn(len(points))]-from, api.MaxUnits-from, api.MaxUnits-from+1) {
				price, err := Between(l, from, n)
				if want, wanted := modelBetween(original, from, n); price != want || err != wanted {
					t.Fatalf("Between(%v, %d, %d) = %d, %v, not %d, %v", original, from, n, price, err, want, wanted)
				}
				found[err]++
			}
		}
		if !samples.Unchanged(l, original, mark) {
			t.Fatal("the argument has changed")
		}
	}
	if found[api.OK] < 10000 || found[api.ErrRange] < 10000 {
		t.Error(found)
	}
}

// P29.3, with R5: random ladders, from all of their limits, with amounts that are prices, and with others.
func TestUnits(t *testing.T) {
	rnd := rand.New(rand.NewSource(293))
	mark := step(1, 2, 3)
	none, all, some := 0, 0, 0
	for range 300 {
		original := anyLadder(rnd)
		l, points := samples.Spare(original, mark), limits(original)
		for _, from := range points {
			amounts := []int{math.MinInt, -1, 0, 1, rnd.Intn(api.MaxAmount), api.MaxAmount, math.MaxInt}
			for range 4 {
				if price, err := modelBetween(original, from, points[rnd.Intn(len(points))]); err == api.OK {
					amounts = append(amounts, price-1, price, price+1)
				}
			}
			for _, amount := range amounts {
				n := Units(l, from, amount)
				if !isUnits(original, from, amount, n) {
					t.Fatalf("Units(%v, %d, %d) = %d", original, from, amount, n)
				}
				switch {
				case n == 0:
					none++
				case n == api.MaxUnits-from:
					all++
				default:
					some++
				}
			}
		}
		if !samples.Unchanged(l, original, mark) {
			t.Fatal("the argument has changed")
		}
	}
	if none < 5000 || all < 5000 || some < 5000 {
		t.Error(none, all, some)
	}
}

// P29.3: the greatest number, counted from 0 on.
func TestUnitsCounted(t *testing.T) {
	rnd := rand.New(rand.NewSource(2930))
	for range 300 {
		l := samples.ValidSteps(rnd.Intn)
		l[len(l)-1].Price++ // so that there is an end
		from, amount, want := rnd.Intn(200), rnd.Intn(3000), 0
		for n := 0; ; n++ {
			price, err := Between(l, from, n)
			if err != api.OK || price > amount {
				break
			}
			want = n
		}
		if n := Units(l, from, amount); n != want {
			t.Fatalf("Units(%v, %d, %d) = %d, not %d", l, from, amount, n, want)
		}
	}
}

// P29.3: units without a price, a price that is too high at any number, and the end of the units.
func TestUnitsLimits(t *testing.T) {
	free, dear := []api.Step{step(0, 1, 0)}, []api.Step{step(2, 1, api.MaxAmount), step(0, 1, 0)}
	for i, x := range []struct {
		l                  []api.Step
		from, amount, want int
	}{
		{free, 0, 0, api.MaxUnits}, {free, 7, 0, api.MaxUnits - 7}, {free, api.MaxUnits, 0, 0}, {free, api.MaxUnits - 1, 0, 1}, {free, api.MaxUnits + 1, 0, 0}, {free, -1, 0, 0}, {free, math.MinInt, 0, 0}, {free, math.MaxInt, 0, 0},
		{free, 0, -1, 0}, {free, 0, math.MinInt, 0}, {free, 0, math.MaxInt, api.MaxUnits},
		{dear, 0, api.MaxAmount, 1}, {dear, 0, math.MaxInt, 1}, {dear, 0, api.MaxAmount - 1, 0}, {dear, 1, math.MaxInt, 0}, {dear, 2, math.MaxInt, 0}, {dear, api.MaxUnits, math.MaxInt, 0},
		{[]api.Step{step(0, 1, 1)}, 0, api.MaxAmount, api.MaxUnits}, {[]api.Step{step(0, 1, 1)}, 0, api.MaxUnits - 1, api.MaxUnits - 1}, {[]api.Step{step(0, 1, 1024)}, 0, api.MaxAmount, api.MaxUnits}, {[]api.Step{step(0, 1, 1025)}, 0, math.MaxInt, api.MaxAmount / 1025},
		{[]api.Step{step(api.MaxUnits, 1, 0), step(0, 1, 1)}, 0, 0, api.MaxUnits},
	} {
		if n := Units(x.l, x.from, x.amount); n != x.want {
			t.Error("case", i, n)
		}
	}
}

// P29.1 to P29.4: ladders that are not valid, with any integers.
func TestNotValid(t *testing.T) {
	for i, l := range notValid() {
		if checker.Steps(l) == api.OK {
			t.Fatal("the ladder", i, "is valid")
		}
		for _, a := range limits(nil) {
			if price, err := Price(l, a); price != 0 || err != api.ErrInvalid {
				t.Error("Price", i, a, price, err)
			}
			if price := Marginal(l, a); price != 0 {
				t.Error("Marginal", i, a, price)
			}
			for _, b := range limits(nil) {
				if price, err := Between(l, a, b); price != 0 || err != api.ErrInvalid {
					t.Error("Between", i, a, b, price, err)
				}
				if n := Units(l, a, b); n != 0 {
					t.Error("Units", i, a, b, n)
				}
			}
		}
	}
}

// P29.5: an amount pays for Units and not for one more, prices do not decrease, and those of two parts add up to that of the whole.
func TestInverse(t *testing.T) {
	rnd := rand.New(rand.NewSource(295))
	more, added := 0, 0
	for range 20000 {
		l := anyLadder(rnd)
		points := limits(l)
		from, n, next := points[rnd.Intn(len(points))], points[rnd.Intn(len(points))], rnd.Intn(100)
		first, err1 := Between(l, from, n)
		if err1 != api.OK {
			continue
		}
		if paid := Units(l, from, first); paid < n {
			t.Fatalf("%v, %d, %d: %d pays for %d", l, from, n, first, paid)
		} else if paid > n {
			if price, err := Between(l, from, paid); price != first || err != api.OK {
				t.Fatalf("%v, %d, %d: %d pays for %d, which cost %d", l, from, n, first, paid, price)
			}
			more++
		}
		second, err2 := Between(l, from+n, next)
		whole, err3 := Between(l, from, n+next)
		if err2 != err3 || err2 == api.OK && (first+second != whole || second < 0) {
			t.Fatalf("%v, %d, %d, %d: %d, %d, %d", l, from, n, next, first, second, whole)
		}
		if err2 == api.OK && second > 0 {
			added++
		}
	}
	if more < 500 || added < 500 {
		t.Error(more, added)
	}
}
