package ladder

import (
	"math"
	"math/big"
	"math/rand"
	"slices"

	"billing/api"
	"billing/checker"
	"billing/samples"
)

// step returns a step.
func step(upto, quantum, price int) api.Step {
	return api.Step{Upto: upto, Quantum: quantum, Price: price}
}

// minutes is the ladder of the chapter's examples.
func minutes() []api.Step { return []api.Step{step(60, 60, 1000), step(0, 1, 20)} }

// modelPrice returns the price and the error: the definitions, with exact integers.
func modelPrice(steps []api.Step, n int) (int, api.Errno) {
	if checker.Steps(steps) != api.OK {
		return 0, api.ErrInvalid
	}
	if n < 0 || n > 1<<40 {
		return 0, api.ErrRange
	}
	sum, below := new(big.Int), 0
	for i, s := range steps {
		falling := n - below
		if i < len(steps)-1 && n > s.Upto {
			falling = s.Upto - below
		}
		if falling > 0 {
			blocks := falling / s.Quantum
			if falling%s.Quantum > 0 {
				blocks++
			}
			sum.Add(sum, new(big.Int).Mul(big.NewInt(int64(blocks)), big.NewInt(int64(s.Price))))
		}
		below = s.Upto
	}
	if sum.Cmp(big.NewInt(1<<50)) > 0 {
		return 0, api.ErrRange
	}
	return int(sum.Int64()), api.OK
}

// modelBetween returns the difference of two prices, and the error: the sentences of P29.2.
func modelBetween(steps []api.Step, from, n int) (int, api.Errno) {
	if checker.Steps(steps) != api.OK {
		return 0, api.ErrInvalid
	}
	if from < 0 || from > 1<<40 || n < 0 || n > 1<<40 || from+n > 1<<40 {
		return 0, api.ErrRange
	}
	all, err := modelPrice(steps, from+n)
	if err != api.OK {
		return 0, err
	}
	first, _ := modelPrice(steps, from)
	return all - first, api.OK
}

// paid reports whether n is one of those of which Units is the greatest: the definition.
func paid(steps []api.Step, from, n, amount int) bool {
	price, err := modelBetween(steps, from, n)
	return err == api.OK && price <= amount
}

// isUnits reports whether n is what Units has to return. Prices do not decrease, so n is the greatest one if the next one is too many.
func isUnits(steps []api.Step, from, amount, n int) bool {
	if !paid(steps, from, 0, amount) {
		return n == 0
	}
	return n >= 0 && paid(steps, from, n, amount) && !paid(steps, from, n+1, amount)
}

// wide returns a valid ladder whose fields are at their limits, or anywhere between.
func wide(rnd *rand.Rand) []api.Step {
	quanta := []int{1, 2, 60, 1 << 20, 1<<20 + 1, api.MaxUnits - 1, api.MaxUnits}
	prices := []int{0, 1, 20, 1023, 1024, 1025, 1 << 30, api.MaxAmount/2 - 1, api.MaxAmount / 2, api.MaxAmount - 1, api.MaxAmount}
	var ends []int
	for range rnd.Intn(5) {
		ends = append(ends, []int{1, 2, 59, 60, 61, 1 << 20, 1 + rnd.Intn(api.MaxUnits), api.MaxUnits - 1, api.MaxUnits}[rnd.Intn(9)])
	}
	slices.Sort(ends)
	var steps []api.Step
	for _, end := range append(slices.Compact(ends), 0) {
		s := step(end, quanta[rnd.Intn(len(quanta))], prices[rnd.Intn(len(prices))])
		if rnd.Intn(4) == 0 {
			s.Quantum, s.Price = 1+rnd.Intn(1+rnd.Intn(api.MaxUnits)), rnd.Intn(1+rnd.Intn(api.MaxAmount+1))
		}
		steps = append(steps, s)
	}
	return steps
}

// anyLadder returns a valid ladder with small or with great numbers.
func anyLadder(rnd *rand.Rand) []api.Step {
	if rnd.Intn(2) == 0 {
		return samples.ValidSteps(rnd.Intn)
	}
	return wide(rnd)
}

// limits returns the numbers of units at which something begins or ends in a ladder, with their neighbours, and integers that are no numbers of units.
func limits(steps []api.Step) []int {
	list := []int{math.MinInt, math.MinInt + 1, -api.MaxUnits, -2, -1, 0, 1, 2, api.MaxUnits / 2, api.MaxUnits - 1, api.MaxUnits, api.MaxUnits + 1, math.MaxInt - api.MaxUnits, math.MaxInt - 1, math.MaxInt}
	below := 0
	for _, s := range steps {
		for _, n := range []int{below, below + s.Quantum, below + 2*s.Quantum, s.Upto} {
			list = append(list, n-1, n, n+1)
		}
		below = s.Upto
	}
	slices.Sort(list)
	return slices.Compact(list)
}

// notValid are ladders with each of the errors of the checker, alone and together with others.
func notValid() [][]api.Step {
	long := make([]api.Step, 65)
	for i := range long {
		long[i] = step((i+1)%65, 1, 1)
	}
	return [][]api.Step{
		nil, {}, {{}}, {step(60, 60, 1000)}, {step(0, 0, 1)}, {step(0, -1, 1)}, {step(0, api.MaxUnits+1, 1)}, {step(0, 1, -1)}, {step(0, 1, api.MaxAmount+1)}, {step(-1, 1, 1)}, {step(0, math.MinInt, math.MaxInt)},
		{step(0, 1, 1), step(0, 1, 1)}, {step(60, 60, 1000), step(60, 1, 20)}, {step(60, 1, 1), step(50, 1, 1), step(0, 1, 1)}, {step(60, 1, 1), step(60, 1, 1), step(0, 1, 1)},
		{step(api.MaxUnits+1, 1, 1), step(0, 1, 1)}, {step(math.MaxInt, 1, 1), step(0, 1, 1)}, {step(60, 0, 1), step(0, 1, 1)}, {step(60, 1, 1), step(0, 1, -1)}, {step(60, 1, math.MinInt), step(0, 1, 1)}, long,
	}
}
