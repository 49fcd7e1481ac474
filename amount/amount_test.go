package amount

import (
	"math"
	"math/big"
	"math/rand"
	"slices"
	"testing"

	"billing/api"
)

// notAmounts are integers on both sides that are not amounts.
var notAmounts = []int{api.MaxAmount + 1, -api.MaxAmount - 1, math.MaxInt, math.MinInt, math.MinInt + 1}

// edges are amounts that lie at a limit or next to a half.
var edges = []int{0, 1, -1, 4999, 5000, 5001, -4999, -5000, -5001, 9999, 10000, 10001, -9999, -10000, -10001, 14999, 15000, -14999, -15000, api.MaxAmount - 1, api.MaxAmount, -api.MaxAmount + 1, -api.MaxAmount}

// generator returns numbers that are the same in every run.
func generator() *rand.Rand { return rand.New(rand.NewSource(1)) }

// someAmount returns an amount of any magnitude.
func someAmount(r *rand.Rand) int {
	if r.Intn(8) == 0 {
		return edges[r.Intn(len(edges))]
	}
	a := r.Intn(1 << r.Intn(51))
	if r.Intn(2) == 0 {
		return -a
	}
	return a
}

// someUnits returns a number of units of any magnitude.
func someUnits(r *rand.Rand) int {
	if r.Intn(8) == 0 {
		return []int{0, 1, api.MaxUnits - 1, api.MaxUnits}[r.Intn(4)]
	}
	return r.Intn(1 << r.Intn(41))
}

// nearest returns x / y, rounded by the definition: the greatest integer at most 1/2 above the absolute value.
func nearest(x, y *big.Int) *big.Int {
	twice := new(big.Int).Abs(x)
	twice.Lsh(twice, 1).Add(twice, y)
	twice.Div(twice, new(big.Int).Lsh(y, 1))
	if x.Sign() < 0 {
		twice.Neg(twice)
	}
	return twice
}

// P1.1
func TestValid(t *testing.T) {
	for _, a := range edges {
		if !Valid(a) {
			t.Error(a)
		}
	}
	for _, a := range notAmounts {
		if Valid(a) {
			t.Error(a)
		}
	}
}

// P1.1
func TestAdd(t *testing.T) {
	cases := []struct {
		a, b, want int
		err        api.Errno
	}{
		{0, 0, 0, api.OK},
		{2, 3, 5, api.OK},
		{-2, -3, -5, api.OK},
		{api.MaxAmount, -api.MaxAmount, 0, api.OK},
		{api.MaxAmount - 1, 1, api.MaxAmount, api.OK},
		{1 - api.MaxAmount, -1, -api.MaxAmount, api.OK},
		{api.MaxAmount, 1, 0, api.ErrRange},
		{-api.MaxAmount, -1, 0, api.ErrRange},
		{api.MaxAmount, api.MaxAmount, 0, api.ErrRange},
		{api.MaxAmount + 1, -1, 0, api.ErrRange},
		{-1, api.MaxAmount + 1, 0, api.ErrRange},
		{-api.MaxAmount - 1, 1, 0, api.ErrRange},
		{math.MinInt, math.MinInt, 0, api.ErrRange},
		{math.MinInt, math.MaxInt, 0, api.ErrRange},
		{math.MaxInt, 1, 0, api.ErrRange},
	}
	for _, c := range cases {
		if got, err := Add(c.a, c.b); got != c.want || err != c.err {
			t.Error(c, got, err)
		}
	}
}

// P1.1
func TestSum(t *testing.T) {
	const top = api.MaxAmount
	cases := []struct {
		list []int
		want int
		err  api.Errno
	}{
		{nil, 0, api.OK},
		{[]int{}, 0, api.OK},
		{[]int{7}, 7, api.OK},
		{[]int{1, -2, 4}, 3, api.OK},
		{[]int{top, top, -top}, top, api.OK},
		{[]int{-top, -top, top, 1}, 1 - top, api.OK},
		{[]int{top, 1}, 0, api.ErrRange},
		{[]int{-top, -1}, 0, api.ErrRange},
		{[]int{top + 1, -1}, 0, api.ErrRange},
		{[]int{1, math.MinInt}, 0, api.ErrRange},
		{[]int{math.MaxInt, math.MinInt}, 0, api.ErrRange},
		{slices.Repeat([]int{top}, api.MaxRecords), 0, api.ErrRange},
		{slices.Repeat([]int{top, -top}, api.MaxRecords/2), 0, api.OK},
		{slices.Repeat([]int{1}, api.MaxRecords), api.MaxRecords, api.OK},
		{slices.Repeat([]int{1}, api.MaxRecords+1), 0, api.ErrTooLong},
		{slices.Repeat([]int{math.MaxInt}, api.MaxRecords+1), 0, api.ErrTooLong},
	}
	for i, c := range cases {
		if got, err := Sum(c.list); got != c.want || err != c.err {
			t.Error(i, got, err)
		}
	}
}

// P1.2
func TestScale(t *testing.T) {
	const top, units = api.MaxAmount, api.MaxUnits
	cases := []struct {
		a, n, d, want int
		err           api.Errno
	}{
		{45, 1000, 10000, 5, api.OK},
		{-45, 1000, 10000, -5, api.OK},
		{44, 1000, 10000, 4, api.OK},
		{-44, 1000, 10000, -4, api.OK},
		{1, 1, 2, 1, api.OK},
		{-1, 1, 2, -1, api.OK},
		{1, 1, 3, 0, api.OK},
		{2, 1, 3, 1, api.OK},
		{-2, 1, 3, -1, api.OK},
		{7, 0, 3, 0, api.OK},
		{0, units, 1, 0, api.OK},
		{top, units, units, top, api.OK},
		{-top, units, units, -top, api.OK},
		{top, 1, 1, top, api.OK},
		{top / 2, 2, 1, top, api.OK},
		{top, units - 1, units, top - top/units, api.OK},
		{top, 1, units, top / units, api.OK},
		{top, 2, 1, 0, api.ErrRange},
		{-top, 2, 1, 0, api.ErrRange},
		{top, units, 1, 0, api.ErrRange},
		{top, units, units - 1, 0, api.ErrRange},
		{top/2 + 1, 2, 1, 0, api.ErrRange},
		{1<<49 + 1, 2, 1, 0, api.ErrRange},
		{top + 1, 1, 1, 0, api.ErrRange},
		{top + 1, 1, 2, 0, api.ErrRange},
		{-top - 1, 0, 1, 0, api.ErrRange},
		{math.MinInt, 1, units, 0, api.ErrRange},
		{1, -1, 1, 0, api.ErrRange},
		{1, units + 1, units, 0, api.ErrRange},
		{1, math.MinInt, 1, 0, api.ErrRange},
		{1, 1, 0, 0, api.ErrRange},
		{1, 1, -1, 0, api.ErrRange},
		{1, 1, units + 1, 0, api.ErrRange},
		{1, 1, math.MinInt, 0, api.ErrRange},
		{0, 0, 0, 0, api.ErrRange},
	}
	for _, c := range cases {
		if got, err := Scale(c.a, c.n, c.d); got != c.want || err != c.err {
			t.Error(c, got, err)
		}
	}
}

// P1.2: it is the rounded result that must be an amount.
func TestScaleRoundsIntoRange(t *testing.T) {
	// (2^51 + 1) / 2 is MaxAmount and a half, and 3 * 750599937895083 is 2^51 + 1.
	if got, err := Scale(750599937895083, 3, 2); got != 0 || err != api.ErrRange {
		t.Error(got, err)
	}
	// (2^52 + 1) / 4 is a quarter above MaxAmount, and 17 * 264917625139441 is 2^52 + 1.
	if got, err := Scale(264917625139441, 17, 4); got != api.MaxAmount || err != api.OK {
		t.Error(got, err)
	}
	if got, err := Scale(-264917625139441, 17, 4); got != -api.MaxAmount || err != api.OK {
		t.Error(got, err)
	}
}

// P1.2: against integers without limit.
func TestScaleExact(t *testing.T) {
	r := generator()
	limit := big.NewInt(api.MaxAmount)
	for range 50000 {
		a, n, d := someAmount(r), someUnits(r), max(1, someUnits(r))
		want := new(big.Int).Mul(big.NewInt(int64(a)), big.NewInt(int64(n)))
		want = nearest(want, big.NewInt(int64(d)))
		got, err := Scale(a, n, d)
		if want.CmpAbs(limit) > 0 {
			if got != 0 || err != api.ErrRange {
				t.Fatal(a, n, d, got, err)
			}
		} else if err != api.OK || int64(got) != want.Int64() {
			t.Fatal(a, n, d, got, err, want)
		}
	}
}

// P1.2: a quotient that has 64 bits only until it is rounded.
func TestScaleHuge(t *testing.T) {
	for _, c := range [][3]int{{1125899497835327, 17179990113, 1048583}, {1125899401481335, 16384056506, 1000003}, {1125469579623287, 202337815, 12345}} {
		for _, a := range []int{c[0], -c[0], c[0] + 1} {
			if got, err := Scale(a, c[1], c[2]); got != 0 || err != api.ErrRange {
				t.Error(a, c, got, err)
			}
		}
	}
}

// P1.2
func TestPercent(t *testing.T) {
	cases := []struct {
		a, points, want int
		err             api.Errno
	}{
		{45, 1000, 5, api.OK},
		{-45, 1000, -5, api.OK},
		{20000, 1900, 3800, api.OK},
		{12345, 0, 0, api.OK},
		{1, 5000, 1, api.OK},
		{1, 4999, 0, api.OK},
		{-1, 5000, -1, api.OK},
		{api.MaxAmount, 10000, api.MaxAmount, api.OK},
		{1, 10001, 0, api.ErrRange},
		{1, -1, 0, api.ErrRange},
		{1, math.MinInt, 0, api.ErrRange},
		{1, math.MaxInt, 0, api.ErrRange},
		{api.MaxAmount + 1, 1, 0, api.ErrRange},
		{-api.MaxAmount - 1, 0, 0, api.ErrRange},
	}
	for _, c := range cases {
		if got, err := Percent(c.a, c.points); got != c.want || err != c.err {
			t.Error(c, got, err)
		}
	}
}

// P1.7
func TestPercentOfTheWhole(t *testing.T) {
	r := generator()
	for range 1000 {
		a := someAmount(r)
		if got, err := Percent(a, 10000); got != a || err != api.OK {
			t.Fatal(a, got, err)
		}
	}
}

// P1.3
func TestRounded(t *testing.T) {
	cases := []struct{ a, want int }{
		{0, 0}, {1, 0}, {4999, 0}, {5000, 1}, {5001, 1}, {9999, 1}, {10000, 1}, {14999, 1}, {15000, 2}, {25000, 3},
		{-1, 0}, {-4999, 0}, {-5000, -1}, {-5001, -1}, {-9999, -1}, {-10000, -1}, {-14999, -1}, {-15000, -2}, {-25000, -3},
		{api.MaxAmount, 112589990684}, {math.MaxInt, 922337203685478}, {math.MinInt, -922337203685478},
	}
	for _, c := range cases {
		if got := Rounded(c.a); got != c.want {
			t.Error(c, got)
		}
	}
}

// P1.3: for every integer.
func TestRoundedExact(t *testing.T) {
	r := generator()
	for range 20000 {
		a := int(r.Uint64()) >> r.Intn(64)
		if want := nearest(big.NewInt(int64(a)), big.NewInt(api.Minor)); int64(Rounded(a)) != want.Int64() {
			t.Fatal(a, Rounded(a), want)
		}
	}
}

// P1.3
func TestRound(t *testing.T) {
	cases := []struct{ list, want []int }{
		{nil, nil},
		{[]int{}, nil},
		{[]int{0}, []int{0}},
		{[]int{5000}, []int{1}},
		{[]int{-5000}, []int{-1}},
		{[]int{4999}, []int{0}},
		{[]int{-4999}, []int{0}},
		{[]int{4000, 4000, 4000}, []int{1, 0, 0}},
		{[]int{2500, 7500}, []int{0, 1}},
		{[]int{10001, 9999}, []int{1, 1}},
		{[]int{3000, 4000, 4000, 3000}, []int{0, 1, 0, 0}},
		{[]int{4000, 13000, 4000, 23000}, []int{1, 1, 0, 2}},
		{[]int{4000, 13000, 4000, 24000}, []int{1, 1, 1, 2}},
		{[]int{-4000, -4000, -4000}, []int{0, 0, -1}},
		{[]int{-10000, 20000, 0}, []int{-1, 2, 0}},
		{[]int{-1, 1}, []int{0, 0}},
		{[]int{-15000, 5000}, []int{-1, 0}},
		{[]int{9999, 9999, 9999}, []int{1, 1, 1}},
		{[]int{api.MaxAmount, api.MaxAmount}, []int{112589990685, 112589990684}},
		{[]int{api.MaxAmount + 1}, nil},
		{[]int{1, -api.MaxAmount - 1}, nil},
		{[]int{math.MinInt, math.MaxInt, 5000}, nil},
	}
	for _, c := range cases {
		if got := Round(c.list); !slices.Equal(got, c.want) {
			t.Error(c, got)
		}
	}
}

// P1.3
func TestRoundLength(t *testing.T) {
	for _, a := range []int{4000, api.MaxAmount, -api.MaxAmount} {
		list := slices.Repeat([]int{a}, api.MaxRecords)
		got := Round(list)
		checkRound(t, list, got)
		if got := Round(append(list, a)); len(got) != 0 {
			t.Error(a, len(got))
		}
	}
}

// P1.3, P1.7
func TestRoundExact(t *testing.T) {
	r := generator()
	for range 5000 {
		list := make([]int, r.Intn(20))
		for i := range list {
			list[i] = someAmount(r)
			if r.Intn(2) == 0 {
				list[i] = (r.Intn(9) - 4) * 2500
			}
		}
		checkRound(t, list, Round(list))
	}
}

// checkRound checks the sum of the elements of Round, their distance from the exact quotients, and which of them have ones.
func checkRound(t *testing.T, list, got []int) {
	t.Helper()
	if len(got) != len(list) {
		t.Fatal(list, got)
	}
	exact, sum := 0, 0
	for i, a := range list {
		exact, sum = exact+a, sum+got[i]
		if difference := got[i]*api.Minor - a; difference <= -api.Minor || difference >= api.Minor {
			t.Fatal(list, got, i)
		}
	}
	if sum != Rounded(exact) {
		t.Fatal(list, got, sum, exact)
	}
	checkOnes(t, len(list), func(i int) (int, bool) {
		rest := (list[i]%api.Minor + api.Minor) % api.Minor
		return rest, got[i]*api.Minor > list[i]-rest
	})
}

// checkOnes checks that no element without a one has a greater rest than one with it, or an equal one and stands in front of it.
func checkOnes(t *testing.T, n int, element func(int) (int, bool)) {
	t.Helper()
	least, position := math.MaxInt, -1 // the last of the least rests that have a one
	for i := range n {
		if rest, one := element(i); one && rest <= least {
			least, position = rest, i
		}
	}
	for i := range n {
		if rest, one := element(i); position >= 0 && !one && (rest > least || rest == least && i < position) {
			t.Fatal("the one belongs to another element", i, position)
		}
	}
}

// P1.4
func TestSplit(t *testing.T) {
	const top, units = api.MaxAmount, api.MaxUnits
	cases := []struct {
		a       int
		weights []int
		want    []int
	}{
		{100, []int{1, 1, 1}, []int{34, 33, 33}},
		{-100, []int{1, 1, 1}, []int{-34, -33, -33}},
		{101, []int{1, 1, 1}, []int{34, 34, 33}},
		{-5, []int{3, 1}, []int{-4, -1}},
		{5, []int{3, 1}, []int{4, 1}},
		{7, []int{1, 2, 4}, []int{1, 2, 4}},
		{10, []int{0, 5}, []int{0, 10}},
		{10, []int{0, 3, 0, 3, 3}, []int{0, 4, 0, 3, 3}},
		{1, []int{1, 2, 2}, []int{0, 1, 0}},
		{2, []int{1, 5, 4}, []int{0, 1, 1}},
		{0, []int{1, 2}, []int{0, 0}},
		{-3, []int{9}, []int{-3}},
		{top, []int{units, units}, []int{top / 2, top / 2}},
		{-top, []int{units, 0}, []int{-top, 0}},
		{top, []int{units, units - 1, 1}, []int{top / 2, top/2 - 512, 512}},
	}
	for _, c := range cases {
		if got, err := Split(c.a, c.weights); err != api.OK || !slices.Equal(got, c.want) {
			t.Error(c, got, err)
		}
	}
}

// P1.4
func TestSplitErrors(t *testing.T) {
	long := slices.Repeat([]int{1}, api.MaxList+1)
	cases := []struct {
		a       int
		weights []int
		err     api.Errno
	}{
		{1, long, api.ErrTooLong},
		{api.MaxAmount + 1, long, api.ErrTooLong},
		{1, slices.Repeat([]int{-1}, api.MaxList+1), api.ErrTooLong},
		{1, make([]int, api.MaxList+1), api.ErrTooLong},
		{api.MaxAmount + 1, []int{1}, api.ErrRange},
		{-api.MaxAmount - 1, []int{1}, api.ErrRange},
		{math.MinInt, []int{0}, api.ErrRange},
		{api.MaxAmount + 1, nil, api.ErrRange},
		{1, []int{1, -1}, api.ErrRange},
		{1, []int{-1, 1}, api.ErrRange},
		{1, []int{api.MaxUnits + 1}, api.ErrRange},
		{1, []int{math.MinInt, math.MaxInt, 1}, api.ErrRange},
		{0, []int{0, -1}, api.ErrRange},
		{1, []int{0, 0}, api.ErrInvalid},
		{0, []int{0}, api.ErrInvalid},
		{1, []int{}, api.ErrInvalid},
		{0, nil, api.ErrInvalid},
	}
	for i, c := range cases {
		if got, err := Split(c.a, c.weights); err != c.err || len(got) != 0 {
			t.Error(i, got, err)
		}
	}
	if got, err := Split(api.MaxList, long[:api.MaxList]); err != api.OK || !slices.Equal(got, long[:api.MaxList]) {
		t.Error(got, err)
	}
}

// P1.4, P1.6
func TestSplitExact(t *testing.T) {
	r := generator()
	for range 10000 {
		a := someAmount(r)
		weights := make([]int, 1+r.Intn(api.MaxList))
		for i := range weights {
			weights[i] = someUnits(r)
			if r.Intn(2) == 0 {
				weights[i] = r.Intn(4)
			}
		}
		weights[r.Intn(len(weights))] = 1 + r.Intn(api.MaxUnits) // so that they are not all 0
		got, err := Split(a, weights)
		if err != api.OK || len(got) != len(weights) {
			t.Fatal(a, weights, got, err)
		}
		checkSplit(t, a, weights, got)
	}
}

// checkSplit checks the sum of the parts, their distance from the exact shares, and which of them have ones.
func checkSplit(t *testing.T, a int, weights, got []int) {
	t.Helper()
	sum, whole := 0, 0
	for i := range weights {
		sum, whole = sum+got[i], whole+weights[i]
	}
	if sum != a {
		t.Fatal(a, weights, got)
	}
	sign := 1
	if a < 0 {
		sign = -1
	}
	checkOnes(t, len(weights), func(i int) (int, bool) {
		share := new(big.Int).Mul(big.NewInt(int64(sign*a)), big.NewInt(int64(weights[i])))
		floor, rest := share.DivMod(share, big.NewInt(int64(whole)), new(big.Int))
		over := int64(sign*got[i]) - floor.Int64()
		if over != 0 && (over != 1 || rest.Sign() == 0) {
			t.Fatal(a, weights, got, i)
		}
		return int(rest.Int64()), over == 1
	})
}

// R5: arguments are left as they are, and results are new memory.
func TestArgumentsAreLeft(t *testing.T) {
	list := []int{3, 1, 2, 99}
	calls := map[string]func([]int) []int{
		"Sum":   func(l []int) []int { Sum(l); return nil },
		"Round": Round,
		"Split": func(l []int) []int { parts, _ := Split(-7, l); return parts },
	}
	for name, call := range calls {
		result := call(list[:3])
		again := call(list[:3])
		for i := range result {
			result[i] = 1000
		}
		if !slices.Equal(list, []int{3, 1, 2, 99}) || slices.Contains(again, 1000) {
			t.Error(name, list, again)
		}
	}
}
