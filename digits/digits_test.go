package digits

import (
	"bytes"
	"cmp"
	"math"
	"math/rand"
	"slices"
	"strings"
	"testing"

	"billing/api"
)

// numbers are numbers, the shortest and the longest among them; others are strings that are none.
var (
	numbers = []string{"0", "9", "00", "09", "90", "49", "4915", "491", "012345", "123456789012345", "000000000000000", "999999999999999"}
	others  = []string{"", " ", "a", "1a", "a1", "12x4", "+49", "-1", "1 ", " 1", "4.9", "/", ":", "1/", "1:", "1\x00", "\xff", "\u0661", "49\n", "1234567890123456", "0000000000000000", strings.Repeat("1", 1000)}
)

// someNumber returns a number of any length.
func someNumber(r *rand.Rand) string {
	return someText(r, "0123456789", 1+r.Intn(api.MaxDigits))
}

// someText returns a string of n of the letters.
func someText(r *rand.Rand, letters string, n int) string {
	text := make([]byte, n)
	for i := range text {
		text[i] = letters[r.Intn(len(letters))]
	}
	return string(text)
}

// P2.1
func TestValid(t *testing.T) {
	for _, s := range numbers {
		if !Valid(s) {
			t.Errorf("%q", s)
		}
	}
	for _, s := range others {
		if Valid(s) {
			t.Errorf("%q", s)
		}
	}
}

// P2.1: every byte, at every position.
func TestValidBytes(t *testing.T) {
	for b := range 256 {
		for i := range 3 {
			s := []byte("555")
			s[i] = byte(b)
			if want := '0' <= b && b <= '9'; Valid(string(s)) != want {
				t.Errorf("%q", s)
			}
		}
	}
}

// P2.1
func TestHasPrefix(t *testing.T) {
	cases := []struct {
		s, p string
		want bool
	}{
		{"4915", "49", true}, {"4915", "4915", true}, {"4915", "", true}, {"", "", true},
		{"491", "4915", false}, {"4915", "15", false}, {"4915", "48", false}, {"", "4", false},
		{"\xff\x00a", "\xff\x00", true}, {"\xff\x00a", "\xff\x01", false}, {"Ab", "a", false},
	}
	for _, c := range cases {
		if got := HasPrefix(c.s, c.p); got != c.want {
			t.Errorf("%q %q %v", c.s, c.p, got)
		}
	}
}

// P2.1
func TestCompare(t *testing.T) {
	cases := []struct {
		a, b string
		want int
	}{
		{"", "", 0}, {"", "0", -1}, {"12", "12", 0}, {"13", "12", 1}, {"12", "13", -1}, {"9", "10", -1}, {"10", "9", 1},
		{"99", "100", -1}, {"0", "00", -1}, {"02", "1", 1}, {"a", "b", -1}, {"\xff", "aa", -1}, {"\x80", "\x7f", 1},
		{"\u00e9", "zz", 1}, {"\x00", "", 1},
	}
	for _, c := range cases {
		if got := Compare(c.a, c.b); got != c.want {
			t.Errorf("%q %q %d", c.a, c.b, got)
		}
		if got := Compare(c.b, c.a); got != -c.want {
			t.Errorf("%q %q %d", c.b, c.a, got)
		}
	}
}

// P2.6
func TestCompareIsATotalOrder(t *testing.T) {
	list := slices.Concat(numbers, others)
	r := rand.New(rand.NewSource(2))
	for range 40 {
		list = append(list, someText(r, "\x0001\xff", r.Intn(4)))
	}
	for _, a := range list {
		for _, b := range list {
			ab := Compare(a, b)
			if ab != cmp.Compare(ab, 0) || ab == 0 != (a == b) || ab != -Compare(b, a) {
				t.Fatalf("%q %q %d", a, b, ab)
			}
			if a != b && HasPrefix(b, a) && ab != -1 {
				t.Fatalf("%q is a prefix of %q: %d", a, b, ab)
			}
			for _, c := range list {
				if ab <= 0 && Compare(b, c) <= 0 && Compare(a, c) > 0 {
					t.Fatalf("%q %q %q", a, b, c)
				}
			}
		}
	}
}

// P2.2
func TestLongest(t *testing.T) {
	cases := []struct {
		s        string
		prefixes []string
		want     int
	}{
		{"4915", []string{"4", "49", "491", "49"}, 2},
		{"48", []string{"4", "49", "491", "49"}, 0},
		{"49", []string{"4", "49", "491", "49"}, 1},
		{"4915", []string{"491", "49", "4"}, 0},
		{"4915", []string{"4", "49", "49", "4"}, 1},
		{"5", []string{"4"}, -1},
		{"5", nil, -1},
		{"5", []string{}, -1},
		{"", []string{"4"}, -1},
		{"", []string{"4", "", ""}, 1},
		{"5", []string{"4", ""}, 1},
		{"5", []string{"", "5"}, 1},
		{"5", []string{"5", "", "5"}, 0},
		{"49", []string{"4915", "49"}, 1},
		{"x\xffy", []string{"x", "x\xff", "x\xfe"}, 1},
	}
	for _, c := range cases {
		before := slices.Clone(c.prefixes)
		if got := Longest(c.s, c.prefixes); got != c.want || !slices.Equal(before, c.prefixes) {
			t.Errorf("%q %q %d", c.s, c.prefixes, got)
		}
	}
}

// P2.7: more prefixes never lead to a shorter one.
func TestLongestGrows(t *testing.T) {
	r := rand.New(rand.NewSource(3))
	for range 2000 {
		s, length := someText(r, "12", 6), -1
		prefixes := []string{}
		for range 12 {
			prefixes = append(prefixes, someText(r, "12", r.Intn(6)))
			i := Longest(s, prefixes)
			if i < 0 && length >= 0 || i >= 0 && (len(prefixes[i]) < length || !HasPrefix(s, prefixes[i])) {
				t.Fatalf("%q %q %d", s, prefixes, i)
			}
			if i >= 0 {
				length = len(prefixes[i])
			}
		}
	}
}

// P2.3
func TestNormal(t *testing.T) {
	cases := []struct{ s, country, want string }{
		{"0171555", "49", "49171555"},
		{"0049171", "1", "49171"},
		{"+49171", "1", "49171"},
		{"171", "49", "171"},
		{"000", "49", "0"},
		{"0", "49", "49"},
		{"+0171", "49", "0171"},
		{"+00171", "49", "00171"},
		{"000171", "49", "0171"},
		{"00000", "49", "000"},
		{"01", "0", "01"},
		{"0012345", "99999", "12345"},
		{"100", "49", "100"},
		{"123456789012345", "1", "123456789012345"},
		{"+123456789012345", "1", "123456789012345"},
		{"00123456789012345", "1", "123456789012345"},
		{"01234567890123", "49", "491234567890123"},
		{"0", "123456789012345", "123456789012345"},
	}
	for _, c := range cases {
		if got, err := Normal(c.s, c.country); err != api.OK || got != c.want {
			t.Errorf("%q %q %q %d", c.s, c.country, got, err)
		}
	}
}

// P2.3
func TestNormalErrors(t *testing.T) {
	for _, country := range others {
		if got, err := Normal("171", country); err != api.ErrNumber || got != "" {
			t.Errorf("%q %q %d", country, got, err)
		}
	}
	cases := [][2]string{
		{"", "49"}, {"+", "49"}, {"00", "49"}, {"++49", "1"}, {"+-1", "1"}, {"00+49", "1"}, {"0+49", "1"}, {"17a", "49"}, {"-171", "49"}, {" 171", "49"},
		{"1234567890123456", "1"}, {"+1234567890123456", "1"}, {"001234567890123456", "1"}, {"012345678901234", "49"}, {"01", "123456789012345"}, {"171+", "49"},
	}
	for _, c := range cases {
		if got, err := Normal(c[0], c[1]); err != api.ErrNumber || got != "" {
			t.Errorf("%q %q %d", c, got, err)
		}
	}
}

// P2.7
func TestNormalAgain(t *testing.T) {
	r := rand.New(rand.NewSource(4))
	for range 5000 {
		country := someNumber(r)
		s := someText(r, "+00123", r.Intn(18))
		number, err := Normal(s, country)
		if err != api.OK {
			continue
		}
		if again, err := Normal("+"+number, someNumber(r)); err != api.OK || again != number {
			t.Fatalf("%q %q %q", s, number, again)
		}
	}
}

// P2.4
func TestPack(t *testing.T) {
	cases := map[string]string{
		"0":               "\x0f",
		"9":               "\x9f",
		"00":              "\x00",
		"12":              "\x12",
		"123":             "\x12\x3f",
		"4915":            "\x49\x15",
		"12345678901234":  "\x12\x34\x56\x78\x90\x12\x34",
		"123456789012345": "\x12\x34\x56\x78\x90\x12\x34\x5f",
	}
	for s, want := range cases {
		if got, err := Pack(s); err != api.OK || string(got) != want {
			t.Errorf("%q %x %d", s, got, err)
		}
		if got, err := Unpack([]byte(want)); err != api.OK || got != s {
			t.Errorf("%x %q %d", want, got, err)
		}
	}
	for _, s := range others {
		if got, err := Pack(s); err != api.ErrNumber || len(got) != 0 {
			t.Errorf("%q %x %d", s, got, err)
		}
	}
}

// P2.4
func TestUnpackErrors(t *testing.T) {
	list := []string{
		"", "\x1f\x23", "\xff", "\xf1", "\xf0", "\x1a", "\xa1", "\x1e", "\x12\xff", "\x12\xf3", "\x12\x3a", "\x12\xa3", "\x12\xe3",
		"\xff\x12", "\x0f\x0f", "\x1f\x2f", "\xaf", "\x12\x34\x56\x78\x90\x12\x34\x56", "\x12\x34\x56\x78\x90\x12\x34\x56\x7f", strings.Repeat("\x11", 1000),
	}
	for _, b := range list {
		if got, err := Unpack([]byte(b)); err != api.ErrNumber || got != "" {
			t.Errorf("%x %q %d", b, got, err)
		}
	}
}

// P2.4, P2.7: each number of two bytes has exactly one packed form.
func TestUnpackReversesPack(t *testing.T) {
	for high := range 256 {
		for low := range 256 {
			b := []byte{byte(high), byte(low)}
			s, err := Unpack(b)
			if want := strings.ContainsRune("0123456789", rune(b[0]>>4+'0')) && b[0]&15 < 10 && b[1]>>4 < 10 && (b[1]&15 < 10 || b[1]&15 == 15); want != (err == api.OK) {
				t.Fatalf("%x %q %d", b, s, err)
			}
			if again, _ := Pack(s); err == api.OK && !bytes.Equal(again, b) {
				t.Fatalf("%x %q %x", b, s, again)
			}
		}
	}
	r := rand.New(rand.NewSource(5))
	for range 5000 {
		s := someNumber(r)
		b, err := Pack(s)
		if got, back := Unpack(b); err != api.OK || back != api.OK || got != s {
			t.Fatalf("%q %x %q", s, b, got)
		}
	}
}

// R5
func TestUnpackLeavesItsArgument(t *testing.T) {
	b := []byte{0x12, 0x3f, 0x45}
	s, err := Unpack(b[:2])
	if b[0], b[1] = 0, 0; s != "123" || err != api.OK || b[2] != 0x45 {
		t.Error(s, err, b)
	}
}

// P2.5
func TestMask(t *testing.T) {
	cases := []struct {
		s    string
		keep int
		want string
	}{
		{"4915", 2, "49xx"}, {"4915", 0, "xxxx"}, {"4915", 4, "4915"}, {"4915", 3, "491x"}, {"49", 5, "49"}, {"49", -1, "xx"},
		{"49", math.MinInt, "xx"}, {"49", math.MaxInt, "49"}, {"", 0, ""}, {"", 3, ""}, {"", -3, ""},
		{"a\u00e9b", 2, "a\xc3xx"}, {"\xff\xfe", 1, "\xffx"}, {"\u20ac", 0, "xxx"},
	}
	for _, c := range cases {
		if got := Mask(c.s, c.keep); got != c.want {
			t.Errorf("%q %d %q", c.s, c.keep, got)
		}
	}
}
