package zones

import (
	"fmt"
	"math/rand"
	"slices"
	"strconv"
	"strings"
	"testing"

	"billing/api"
	"billing/digits"
)

// example is the list of the chapter's examples.
func example() []api.Zone {
	return []api.Zone{zone("home", "49", "4930"), zone("mobile", "4915")}
}

// zone returns a zone.
func zone(name string, prefixes ...string) api.Zone {
	return api.Zone{Name: name, Prefixes: prefixes}
}

// zones returns a list of zones.
func zones(list ...api.Zone) []api.Zone { return list }

// invalidLists are lists that Check refuses.
func invalidLists() [][]api.Zone {
	return [][]api.Zone{
		{{}}, {zone("home")}, {zone("Home", "49")}, {zone("home", "49"), zone("home", "48")}, {zone("home", "49", "49")}, {zone("home", "49"), zone("other", "49")},
		{zone("home", "49", "")}, {zone("home", "+49")}, largest(api.MaxList+1, 1), largest(1, api.MaxList+1),
	}
}

// largest returns n zones with m prefixes each, all of six digits.
func largest(n, m int) []api.Zone {
	var list []api.Zone
	for i := range n {
		z := zone("zone-" + strconv.Itoa(i))
		for j := range m {
			z.Prefixes = append(z.Prefixes, strconv.Itoa(100000+i*m+j))
		}
		list = append(list, z)
	}
	return list
}

// text returns a text of a list, by which lists can be compared.
func text(list []api.Zone) string { return fmt.Sprintf("%q", list) }

// model finds the zone of a number as the chapter defines it, by a search through all prefixes.
func model(list []api.Zone, number string) string {
	name, length := "", 0
	for _, z := range list {
		for _, p := range z.Prefixes {
			if strings.HasPrefix(number, p) && len(p) > length {
				name, length = z.Name, len(p)
			}
		}
	}
	return name
}

// allNumbers returns the numbers of 1 to n of the digits 0, 1 and 2.
func allNumbers(n int) []string {
	numbers, longest := []string{}, []string{""}
	for range n {
		var longer []string
		for _, s := range longest {
			longer = append(longer, s+"0", s+"1", s+"2")
		}
		numbers, longest = append(numbers, longer...), longer
	}
	return numbers
}

// some are numbers that tell two lists of someZones apart; the prefixes are no longer than three digits.
var some = allNumbers(4)

// someZones returns a valid list with prefixes of up to three of the digits 0, 1 and 2, many of them redundant.
func someZones(r *rand.Rand) []api.Zone {
	list := zones(zone("c"), zone("a"), zone("b2"), zone("b"))
	prefixes := allNumbers(3)
	r.Shuffle(len(prefixes), func(i, j int) { prefixes[i], prefixes[j] = prefixes[j], prefixes[i] })
	for _, p := range prefixes[:r.Intn(15)] {
		z := &list[r.Intn(len(list))]
		z.Prefixes = append(z.Prefixes, p)
	}
	return slices.DeleteFunc(list, func(z api.Zone) bool { return len(z.Prefixes) == 0 })
}

// same reports whether two lists give every number of some the same zone.
func same(a, b []api.Zone) bool {
	return !slices.ContainsFunc(some, func(number string) bool { return model(a, number) != model(b, number) })
}

// without returns a list without a prefix.
func without(list []api.Zone, prefix string) []api.Zone {
	var rest []api.Zone
	for _, z := range list {
		kept := slices.DeleteFunc(slices.Clone(z.Prefixes), func(p string) bool { return p == prefix })
		rest = append(rest, zone(z.Name, kept...))
	}
	return rest
}

// minimal returns the prefixes of a list that the chapter's definition does not call redundant, each with its zone, in the order of Minimal.
func minimal(list []api.Zone) []api.Zone {
	var result []api.Zone
	for _, z := range list {
		var prefixes []string
		for _, p := range z.Prefixes {
			if !same(list, without(list, p)) {
				prefixes = append(prefixes, p)
			}
		}
		slices.SortFunc(prefixes, func(x, y string) int {
			if len(x) != len(y) {
				return len(x) - len(y)
			}
			return strings.Compare(x, y)
		})
		if len(prefixes) > 0 {
			result = append(result, zone(z.Name, prefixes...))
		}
	}
	slices.SortFunc(result, func(x, y api.Zone) int { return strings.Compare(x.Name, y.Name) })
	return result
}

// shuffled returns a list in another order of the zones and of their prefixes.
func shuffled(r *rand.Rand, list []api.Zone) []api.Zone {
	var other []api.Zone
	for _, i := range r.Perm(len(list)) {
		z := zone(list[i].Name)
		for _, j := range r.Perm(len(list[i].Prefixes)) {
			z.Prefixes = append(z.Prefixes, list[i].Prefixes[j])
		}
		other = append(other, z)
	}
	return other
}

// P6.1: valid lists, the shortest and the longest among them.
func TestCheck(t *testing.T) {
	lists := [][]api.Zone{
		nil, {}, example(), largest(1, 1), largest(api.MaxList, 1), largest(1, api.MaxList), largest(api.MaxList, api.MaxList),
		{zone("abcdefghijklmnopqrstuvwx", "1", "123456789012345", "000000000000000", "0")},
		{zone("a", "4"), zone("b", "49"), zone("a-b", "491"), zone("c", "04")},
	}
	for _, list := range lists {
		if err := Check(list); err != api.OK {
			t.Error(list, err)
		}
	}
}

// P6.1: one error.
func TestCheckErrors(t *testing.T) {
	cases := []struct {
		list []api.Zone
		want api.Errno
	}{
		{largest(api.MaxList+1, 1), api.ErrTooLong},
		{zones(api.Zone{}), api.ErrInvalid},
		{zones(zone("", "49")), api.ErrInvalid},
		{zones(zone("Home", "49")), api.ErrInvalid},
		{zones(zone("9", "49")), api.ErrInvalid},
		{zones(zone("abcdefghijklmnopqrstuvwxy", "49")), api.ErrInvalid},
		{zones(zone("a", "49"), zone("b_", "48")), api.ErrInvalid},
		{zones(zone("a", "49"), zone("a", "48")), api.ErrExists},
		{zones(zone("a", "49"), zone("b", "48"), zone("a", "47")), api.ErrExists},
		{zones(zone("a")), api.ErrInvalid},
		{zones(zone("a", "49"), zone("b", []string{}...)), api.ErrInvalid},
		{largest(1, api.MaxList+1), api.ErrTooLong},
		{append(example(), largest(1, api.MaxList+1)...), api.ErrTooLong},
		{zones(zone("a", "")), api.ErrNumber},
		{zones(zone("a", "49", "48", "+47")), api.ErrNumber},
		{zones(zone("a", "49"), zone("b", "48 ")), api.ErrNumber},
		{zones(zone("a", "1234567890123456")), api.ErrNumber},
		{zones(zone("a", "4x")), api.ErrNumber},
		{zones(zone("a", "49", "49")), api.ErrExists},
		{zones(zone("a", "49", "4", "491", "49")), api.ErrExists},
		{zones(zone("home", "49", "4930", "4915"), zone("mobile", "4915")), api.ErrExists},
		{zones(zone("a", "1", "2"), zone("b", "3"), zone("c", "4", "2")), api.ErrExists},
	}
	for _, c := range cases {
		if got := Check(c.list); got != c.want {
			t.Error(c, got)
		}
	}
}

// P6.1: several errors, of which the one that is named first counts, for the first zone and the first prefix that has one.
func TestCheckOrder(t *testing.T) {
	long, longAndWrong := largest(1, api.MaxList+1)[0].Prefixes, slices.Repeat([]string{"x"}, api.MaxList+1)
	cases := []struct {
		list []api.Zone
		want api.Errno
	}{
		{slices.Repeat(zones(zone("A", longAndWrong...)), api.MaxList+1), api.ErrTooLong},
		{zones(zone("A", longAndWrong...)), api.ErrInvalid},
		{zones(zone("A", "1"), zone("A", "1")), api.ErrInvalid},
		{zones(zone("a", "1"), zone("a")), api.ErrExists},
		{zones(zone("a", "1"), zone("a", longAndWrong...)), api.ErrExists},
		{zones(zone("a", "1"), zone("a", "x")), api.ErrExists},
		{zones(zone("a", longAndWrong...)), api.ErrTooLong},
		{zones(zone("a", slices.Repeat([]string{"1"}, api.MaxList+1)...)), api.ErrTooLong},
		{zones(zone("a", "1", "x", "1", "x")), api.ErrNumber},
		{zones(zone("a", "1", "1", "x")), api.ErrExists},
		{zones(zone("a", "1"), zone("b", "1", "x")), api.ErrExists},
		{zones(zone("a", "1"), zone("b", "x", "1")), api.ErrNumber},
		// An earlier zone counts more than an error that is named first.
		{zones(zone("a", "x"), zone("A", "1")), api.ErrNumber},
		{zones(zone("a", "1", "1"), zone("A", "1")), api.ErrExists},
		{zones(zone("a", long...), zone("a")), api.ErrTooLong},
		{zones(zone("a", "1"), zone("b"), zone("a", "2")), api.ErrInvalid},
		{zones(zone("a", "x"), zone("b"), zone("a")), api.ErrNumber},
	}
	for _, c := range cases {
		if got := Check(c.list); got != c.want {
			t.Error(c, got)
		}
	}
}

// P6.2: the chapter's examples, and the shortest and longest numbers and prefixes.
func TestFind(t *testing.T) {
	edges := zones(zone("zero", "0", "000000000000000"), zone("one", "1"), zone("exact", "123456789012345"), zone("near", "12345678901234"))
	cases := []struct {
		list         []api.Zone
		number, want string
	}{
		{example(), "49151234", "mobile"},
		{example(), "4930", "home"},
		{example(), "33", ""},
		{example(), "4", ""},
		{example(), "49", "home"},
		{example(), "491", "home"},
		{example(), "4915", "mobile"},
		{example(), "493", "home"},
		{example(), "493012345678901", "home"},
		{example(), "5", ""},
		{example(), "0049", ""},
		{edges, "0", "zero"},
		{edges, "000000000000000", "zero"},
		{edges, "1", "one"},
		{edges, "123456789012345", "exact"},
		{edges, "123456789012346", "near"},
		{edges, "12345678901234", "near"},
		{edges, "1234567890123", "one"},
		{edges, "234567890123451", ""},
		{nil, "49", ""},
		{largest(api.MaxList, api.MaxList), "104095999", "zone-63"},
		{largest(api.MaxList, api.MaxList), "104096999", ""},
		// No numbers.
		{example(), "", ""},
		{example(), "+4915", ""},
		{example(), "4915 ", ""},
		{example(), "4915x", ""},
		{example(), "x4915", ""},
		{example(), "4915123456789012", ""},
		{example(), strings.Repeat("49", 1000), ""},
		{edges, "1\x00", ""},
		{edges, "1\u0661", ""},
	}
	for _, c := range cases {
		if got, found := Find(c.list, c.number); got != c.want || found != (c.want != "") {
			t.Error(c, got, found)
		}
	}
}

// P6.2, P6.7: against the definition, in any order of the zones and prefixes.
func TestFindAnyNumber(t *testing.T) {
	r := rand.New(rand.NewSource(1))
	for range 200 {
		list := someZones(r)
		other := shuffled(r, list)
		for _, number := range some {
			want := model(list, number)
			if got, found := Find(list, number); got != want || found != (want != "") {
				t.Fatal(list, number, got, found)
			}
			if got, found := Find(other, number); got != want || found != (want != "") {
				t.Fatal(other, number, got, found)
			}
		}
		for _, z := range list {
			for _, p := range z.Prefixes {
				if got, found := Find(list, p); got != z.Name || !found {
					t.Fatal(list, p, got, found)
				}
			}
		}
	}
}

// P6.2 to P6.5: lists that are not valid.
func TestInvalidLists(t *testing.T) {
	for _, list := range invalidLists() {
		for _, number := range []string{"49", "48", "100000", "1"} {
			if got, found := Find(list, number); got != "" || found {
				t.Error(list, got, found)
			}
		}
		if Equal(list, list) || Equal(list, nil) || Equal(nil, list) || Equal(list, example()) || Equal(example(), list) {
			t.Error(list)
		}
		if got := Minimal(list); len(got) != 0 {
			t.Error(list, got)
		}
		if got := Names(list); len(got) != 0 {
			t.Error(list, got)
		}
	}
}

// P6.3: the chapter's example, and others.
func TestEqual(t *testing.T) {
	cases := []struct {
		a, b []api.Zone
		want bool
	}{
		{example(), zones(zone("mobile", "4915"), zone("home", "49")), true},
		{example(), example(), true},
		{nil, []api.Zone{}, true},
		{example(), nil, false},
		{example(), zones(zone("home", "49"), zone("mobil", "4915")), false},
		{example(), zones(zone("home", "49")), false},
		{example(), zones(zone("home", "49", "4930", "4915")), false},
		{example(), zones(zone("home", "49"), zone("mobile", "4915", "4930")), false},
		{example(), zones(zone("mobile", "49", "4930"), zone("home", "4915")), false},
		{example(), append(example(), zone("other", "1")), false},
		// The number 49 itself distinguishes a prefix from all of its continuations.
		{zones(zone("a", "49")), zones(zone("a", "490", "491", "492", "493", "494", "495", "496", "497", "498", "499")), false},
		{zones(zone("a", "1"), zone("b", "12")), zones(zone("a", "1", "120", "121"), zone("b", "12")), false},
		{zones(zone("a", "1", "123"), zone("b", "12")), zones(zone("a", "1"), zone("b", "12")), false},
		{zones(zone("a", "1", "123"), zone("b", "12")), zones(zone("b", "12"), zone("a", "1234", "123", "1", "11")), true},
		{zones(zone("a", "1", "123456789012345")), zones(zone("a", "1")), true},
		{zones(zone("a", "1"), zone("b", "123456789012345")), zones(zone("a", "1")), false},
		{zones(zone("a", "1", "2")), zones(zone("a", "1"), zone("b", "2")), false},
		{zones(zone("a", "0")), zones(zone("a", "00")), false},
		{largest(api.MaxList, api.MaxList), largest(api.MaxList, api.MaxList), true},
		{largest(api.MaxList, api.MaxList), largest(api.MaxList, api.MaxList-1), false},
	}
	for _, c := range cases {
		if got := Equal(c.a, c.b); got != c.want {
			t.Error(c, got)
		}
		if got := Equal(c.b, c.a); got != c.want {
			t.Error(c, got)
		}
	}
}

// P6.4: the chapter's example, and others.
func TestMinimal(t *testing.T) {
	cases := []struct{ list, want []api.Zone }{
		{nil, nil},
		{example(), zones(zone("home", "49"), zone("mobile", "4915"))},
		{zones(zone("mobile", "4915"), zone("home", "4930", "49")), zones(zone("home", "49"), zone("mobile", "4915"))},
		// A prefix is redundant below a redundant one, but not below one of another zone.
		{zones(zone("a", "1234", "123", "12", "1")), zones(zone("a", "1"))},
		{zones(zone("a", "1", "123"), zone("b", "12", "1234")), zones(zone("a", "1", "123"), zone("b", "12", "1234"))},
		{zones(zone("a", "1", "12", "1234"), zone("b", "123")), zones(zone("a", "1", "1234"), zone("b", "123"))},
		// A prefix is not redundant where all of its continuations are prefixes, since it is a number itself.
		{zones(zone("a", "1"), zone("b", "10", "11", "12", "13", "14", "15", "16", "17", "18", "19")), zones(zone("a", "1"), zone("b", "10", "11", "12", "13", "14", "15", "16", "17", "18", "19"))},
		{zones(zone("a", "123456789012345", "12345678901234"), zone("b", "000000000000000")), zones(zone("a", "12345678901234"), zone("b", "000000000000000"))},
		// By length first, and then digit by digit; zones by their names, byte by byte.
		{zones(zone("a", "21", "3", "119", "20", "00", "100", "4")), zones(zone("a", "3", "4", "00", "20", "21", "100", "119"))},
		{zones(zone("b", "1"), zone("a9", "2"), zone("a-", "3"), zone("a", "4"), zone("aa", "5")), zones(zone("a", "4"), zone("a-", "3"), zone("a9", "2"), zone("aa", "5"), zone("b", "1"))},
	}
	for _, c := range cases {
		if got := Minimal(c.list); text(got) != text(c.want) {
			t.Error(c, got)
		}
	}
	if got := Minimal(largest(api.MaxList, api.MaxList)); len(got) != api.MaxList || !same(got, largest(api.MaxList, api.MaxList)) {
		t.Error(len(got))
	}
}

// P6.3, P6.4, P6.6: against the definitions.
func TestMinimalLists(t *testing.T) {
	r := rand.New(rand.NewSource(2))
	equal, unequal := 0, 0
	for range 1500 {
		a, b := someZones(r), someZones(r)
		if r.Intn(2) == 0 {
			b = shuffled(r, minimal(a))
		}
		minimalA, minimalB := Minimal(a), Minimal(b)
		if text(minimalA) != text(minimal(a)) || !same(a, minimalA) || text(Minimal(minimalA)) != text(minimalA) {
			t.Fatal(a, minimalA)
		}
		if !Equal(a, minimalA) || Check(minimalA) != api.OK {
			t.Fatal(a, minimalA)
		}
		for _, z := range minimalA {
			if !slices.IsSortedFunc(z.Prefixes, digits.Compare) {
				t.Fatal(a, minimalA)
			}
		}
		want := same(a, b)
		if Equal(a, b) != want || (text(minimalA) == text(minimalB)) != want {
			t.Fatal(a, b, want)
		}
		if want {
			equal++
		} else {
			unequal++
		}
	}
	if equal < 100 || unequal < 100 {
		t.Error(equal, unequal)
	}
}

// P6.5
func TestNames(t *testing.T) {
	cases := []struct {
		list []api.Zone
		want []string
	}{
		{nil, nil},
		{example(), []string{"home", "mobile"}},
		{zones(zone("mobile", "4915"), zone("home", "49")), []string{"home", "mobile"}},
		{zones(zone("b", "1"), zone("a9", "2"), zone("a-", "3"), zone("a", "4"), zone("aa", "5")), []string{"a", "a-", "a9", "aa", "b"}},
		{zones(zone("z", "1"), zone("b", "2", "333"), zone("a", "3", "33")), []string{"a", "b", "z"}},
	}
	for _, c := range cases {
		if got := Names(c.list); !slices.Equal(got, c.want) {
			t.Error(c, got)
		}
	}
}

// R5: arguments are left as they are, with their spare capacity, and results are new memory.
func TestArgumentsAreLeft(t *testing.T) {
	build := func() []api.Zone {
		prefixes := []string{"4930", "49", "491", "9", "1"}
		return zones(zone("mobile", "4915"), zone("home", prefixes[:3]...), zone("Spare", "7"), zone("a", "8"))
	}
	list := build()
	first, firstNames := Minimal(list[:2]), Names(list[:2])
	second, want := Minimal(list[:2]), text(first)
	Equal(list[:2], list[:1])
	Check(list[:2])
	Find(list[:2], "49")
	for i := range first {
		for j := range first[i].Prefixes {
			first[i].Prefixes[j] = "x"
		}
		_ = append(first[i].Prefixes, "y")
		first[i].Name, firstNames[i] = "x", "x"
	}
	if text(list) != text(build()) || text(second) != want || !slices.Equal(list[1].Prefixes[:5], []string{"4930", "49", "491", "9", "1"}) {
		t.Error(list, second, want)
	}
}
