package product

import (
	"math"
	"math/rand"
	"reflect"
	"regexp"
	"slices"
	"strconv"
	"strings"
	"testing"

	"billing/api"
)

// base returns a valid product with two bundles.
func base() api.Product {
	return api.Product{Name: "flat", From: 10, Fee: 100, Category: "fees", Prorate: true, Bundles: []api.Bundle{
		{Kind: api.KindVoice, Zones: []string{"home", "mobile"}, Units: 100, Rollover: 20, Priority: 1},
		{Kind: api.KindData, Zones: []string{"world", "zero"}, Units: 5, Shared: true},
	}}
}

// name is the form of a name.
var name = regexp.MustCompile(`\A[a-z][a-z0-9-]{0,23}\z`)

// from reports whether n is from least to most.
func from(n, least, most int) bool { return n >= least && n <= most }

// modelBundle returns the first error of a bundle: the sentences of P19.1.
func modelBundle(b api.Bundle) api.Errno {
	invalid, unordered := false, false
	for i, z := range b.Zones {
		invalid = invalid || !name.MatchString(z)
		unordered = unordered || i > 0 && strings.Compare(b.Zones[i-1], z) != -1
	}
	switch {
	case !from(b.Kind, 1, 4):
		return api.ErrKind
	case len(b.Zones) > 64:
		return api.ErrTooLong
	case invalid:
		return api.ErrInvalid
	case unordered:
		return api.ErrOrder
	case !(from(b.Units, 1, 1<<40) && from(b.Rollover, 0, 1<<40) && from(b.Priority, 0, 99)):
		return api.ErrRange
	}
	return api.OK
}

// modelCheck returns the first error of a list: the sentences of P19.1.
func modelCheck(list []api.Product) api.Errno {
	if len(list) > 4096 {
		return api.ErrTooLong
	}
	for i, p := range list {
		sentences := []struct {
			applies bool
			err     api.Errno
		}{
			{!name.MatchString(p.Name), api.ErrInvalid},
			{!from(p.From, 0, 146097*86400-1), api.ErrTime},
			{!from(p.Fee, 0, 1<<50), api.ErrRange},
			{!name.MatchString(p.Category), api.ErrInvalid},
			{len(p.Bundles) > 64, api.ErrTooLong},
		}
		for _, b := range p.Bundles {
			err := modelBundle(b)
			sentences = append(sentences, struct {
				applies bool
				err     api.Errno
			}{err != api.OK, err})
		}
		for _, s := range sentences {
			if s.applies {
				return s.err
			}
		}
		if i > 0 && (list[i-1].Name > p.Name || list[i-1].Name == p.Name && list[i-1].From >= p.From) {
			return api.ErrOrder
		}
	}
	return api.OK
}

// change is a change of base that gives it an error; rank is the number of the error in the order of P19.1. None hides the error of another one of a different rank.
type change struct {
	rank   int
	err    api.Errno
	change func(p *api.Product)
}

// notNames are texts that are no names.
func notNames() []string {
	return []string{"", "F", "1a", "-", "-a", "a b", "a_b", "aB", "a\x00", "\xff", "\u00e4", "a\u00e4", strings.Repeat("a", 25)}
}

// changes returns changes for each of the errors, beside each limit.
func changes() []change {
	var list []change
	add := func(rank int, err api.Errno, c func(p *api.Product)) { list = append(list, change{rank, err, c}) }
	numbers := func(rank int, err api.Errno, field func(p *api.Product) *int, values ...int) {
		for _, n := range append(values, math.MinInt, math.MaxInt) {
			add(rank, err, func(p *api.Product) { *field(p) = n })
		}
	}
	for _, s := range notNames() {
		add(1, api.ErrInvalid, func(p *api.Product) { p.Name = s })
		add(4, api.ErrInvalid, func(p *api.Product) { p.Category = s })
	}
	numbers(2, api.ErrTime, func(p *api.Product) *int { return &p.From }, -1, api.Forever, api.Forever+1)
	numbers(3, api.ErrRange, func(p *api.Product) *int { return &p.Fee }, -1, api.MaxAmount+1, -api.MaxAmount)
	add(5, api.ErrTooLong, func(p *api.Product) { p.Bundles = append(p.Bundles, make([]api.Bundle, 63)...) })
	for i := range 2 {
		bundle := func(p *api.Product) *api.Bundle { return &p.Bundles[i] }
		first := 10 * (i + 1)
		numbers(first, api.ErrKind, func(p *api.Product) *int { return &bundle(p).Kind }, 0, -1, api.Kinds, api.Kinds+1)
		add(first+1, api.ErrTooLong, func(p *api.Product) {
			for len(bundle(p).Zones) < 65 {
				bundle(p).Zones = append(bundle(p).Zones, "zz"+strconv.Itoa(100+len(bundle(p).Zones)))
			}
		})
		for _, s := range notNames() {
			add(first+2, api.ErrInvalid, func(p *api.Product) { bundle(p).Zones[0] = s })
			add(first+2, api.ErrInvalid, func(p *api.Product) { bundle(p).Zones[len(bundle(p).Zones)-1] = s })
		}
		add(first+3, api.ErrOrder, func(p *api.Product) { slices.Reverse(bundle(p).Zones) })
		add(first+3, api.ErrOrder, func(p *api.Product) { bundle(p).Zones = append(bundle(p).Zones, bundle(p).Zones[1]) })
		numbers(first+4, api.ErrRange, func(p *api.Product) *int { return &bundle(p).Units }, 0, -1, api.MaxUnits+1)
		numbers(first+4, api.ErrRange, func(p *api.Product) *int { return &bundle(p).Rollover }, -1, api.MaxUnits+1)
		numbers(first+4, api.ErrRange, func(p *api.Product) *int { return &bundle(p).Priority }, -1, 100)
	}
	return list
}

// P19.1: each error alone, and the first one of each two.
func TestCheckProduct(t *testing.T) {
	if err := Check([]api.Product{base()}); err != api.OK {
		t.Fatal(err)
	}
	list := changes()
	for _, x := range list {
		p := base()
		x.change(&p)
		if err := Check([]api.Product{p}); err != x.err {
			t.Errorf("Check(%+v) = %v, not %v", p, err, x.err)
		}
		for _, y := range list {
			if x.rank == y.rank {
				continue
			}
			p, want := base(), x.err
			if y.rank < x.rank {
				want = y.err
			}
			x.change(&p)
			y.change(&p)
			if err := Check([]api.Product{p}); err != want {
				t.Errorf("Check(%+v) = %v, not %v", p, err, want)
			}
		}
	}
}

// P19.1: the limits themselves are valid.
func TestCheckLimits(t *testing.T) {
	long := strings.Repeat("z", api.MaxName)
	var zones []string
	for i := range api.MaxList {
		zones = append(zones, "a"+strconv.Itoa(100+i))
	}
	full := api.Bundle{Kind: api.Kinds - 1, Zones: zones, Units: api.MaxUnits, Rollover: api.MaxUnits, Priority: 99, Shared: true}
	least := api.Bundle{Kind: api.KindVoice, Units: 1}
	for _, p := range []api.Product{
		{Name: "a", Category: "a"},
		{Name: "a", Category: "a", Bundles: []api.Bundle{}},
		{Name: "a0-", Category: "a", Bundles: []api.Bundle{least}},
		{Name: "a", Category: "a", Bundles: []api.Bundle{least, least}},
		{Name: "a", Category: "a", Bundles: []api.Bundle{{Kind: api.KindVoice, Units: 1, Rollover: api.MaxUnits}}},
		{Name: "a", Category: "a", Bundles: []api.Bundle{{Kind: api.KindText, Zones: []string{"a", "a-", "a0", "aa", "b"}, Units: 1}}},
		{Name: long, Category: long, From: api.Forever - 1, Fee: api.MaxAmount, Prorate: true, Bundles: slices.Repeat([]api.Bundle{full}, api.MaxList)},
	} {
		if err := Check([]api.Product{p}); err != api.OK {
			t.Errorf("Check(%+v) = %v", p, err)
		}
	}
	for kind := api.KindVoice; kind < api.Kinds; kind++ {
		p := base()
		p.Bundles[1].Kind = kind
		if err := Check([]api.Product{p}); err != api.OK {
			t.Error("the kind", kind, err)
		}
	}
}

// P19.1: the order of the products.
func TestCheckOrder(t *testing.T) {
	for i, x := range []struct {
		first, second string
		from, next    int
		want          api.Errno
	}{
		{"a", "b", 5, 5, api.OK}, {"a", "b", 5, 0, api.OK}, {"b", "a", 5, 6, api.ErrOrder}, {"b", "a", 5, 5, api.ErrOrder},
		{"a", "a", 5, 6, api.OK}, {"a", "a", 5, 5, api.ErrOrder}, {"a", "a", 5, 4, api.ErrOrder}, {"a", "a", 0, api.Forever - 1, api.OK},
		{"a", "aa", 5, 5, api.OK}, {"aa", "b", 5, 5, api.OK}, {"aa", "a", 5, 6, api.ErrOrder},
		{"a-", "a0", 5, 5, api.OK}, {"a0", "aa", 5, 5, api.OK}, {"a0", "a-", 5, 6, api.ErrOrder}, {"a9", "a10", 5, 6, api.ErrOrder},
	} {
		p, q := base(), base()
		p.Name, p.From, q.Name, q.From = x.first, x.from, x.second, x.next
		if err := Check([]api.Product{p, q}); err != x.want {
			t.Error("case", i, err)
		}
		// The second of two products: its other errors come before that of its place.
		if q.Bundles[1].Priority = 100; Check([]api.Product{p, q}) != api.ErrRange {
			t.Error("case", i, "with a priority")
		}
		// The first one comes before the second one.
		if p.Name = ""; Check([]api.Product{p, q}) != api.ErrInvalid {
			t.Error("case", i, "without a name")
		}
	}
}

// P19.1: the number of products.
func TestCheckLength(t *testing.T) {
	var list []api.Product
	for i := range 4096 {
		list = append(list, api.Product{Name: "a", From: i, Category: "b"})
	}
	if err := Check(list); err != api.OK {
		t.Error("as many as possible:", err)
	}
	list[4095].Fee = -1
	if err := Check(list); err != api.ErrRange {
		t.Error("the last one:", err)
	}
	list[0].Name = ""
	if err := Check(list); err != api.ErrInvalid {
		t.Error("the first one:", err)
	}
	if err := Check(append(list, base())); err != api.ErrTooLong {
		t.Error("too many:", err)
	}
	for _, none := range [][]api.Product{nil, {}} {
		if err := Check(none); err != api.OK {
			t.Error("none:", err)
		}
	}
}

// P19.1, with R5: lists with several errors, against the model.
func TestCheckLists(t *testing.T) {
	rnd := rand.New(rand.NewSource(19))
	faults := changes()
	found := map[api.Errno]int{}
	for range 30000 {
		var list []api.Product
		for i := range rnd.Intn(5) {
			p := base()
			p.Name, p.From = "a"+strconv.Itoa(i/2), 10*i
			if rnd.Intn(8) == 0 {
				p.Name, p.From = "a"+strconv.Itoa(rnd.Intn(4)), 10*rnd.Intn(5)
			}
			for range rnd.Intn(12) / 9 {
				faults[rnd.Intn(len(faults))].change(&p)
			}
			list = append(list, p)
		}
		want, given := modelCheck(list), duplicate(list)
		if err := Check(list); err != want {
			t.Fatalf("Check(%+v) = %v, not %v", list, err, want)
		}
		if !reflect.DeepEqual(list, given) {
			t.Fatal("the argument has changed")
		}
		found[want]++
	}
	for _, err := range []api.Errno{api.OK, api.ErrInvalid, api.ErrTime, api.ErrRange, api.ErrTooLong, api.ErrKind, api.ErrOrder} {
		if found[err] < 100 {
			t.Error("the error", err, "only", found[err])
		}
	}
}
