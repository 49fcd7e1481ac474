package amount

import (
	"math"
	"math/big"
	"strings"
	"testing"

	"billing/api"
)

// P1.5
func TestText(t *testing.T) {
	cases := map[int]string{
		0:              "0.0000",
		1:              "0.0001",
		-1:             "-0.0001",
		9999:           "0.9999",
		-9999:          "-0.9999",
		10000:          "1.0000",
		-10000:         "-1.0000",
		100000:         "10.0000",
		120450:         "12.0450",
		-120450:        "-12.0450",
		api.MaxAmount:  "112589990684.2624",
		-api.MaxAmount: "-112589990684.2624",
		math.MaxInt:    "922337203685477.5807",
		math.MinInt:    "-922337203685477.5808",
	}
	for a, want := range cases {
		if got := Text(a); got != want {
			t.Error(a, got, want)
		}
	}
}

// P1.5: for every integer.
func TestTextExact(t *testing.T) {
	r := generator()
	for range 20000 {
		a := int(r.Uint64()) >> r.Intn(64)
		want := new(big.Int).Abs(big.NewInt(int64(a))).String()
		want = strings.Repeat("0", max(0, 5-len(want))) + want
		want = want[:len(want)-4] + "." + want[len(want)-4:]
		if a < 0 {
			want = "-" + want
		}
		if got := Text(a); got != want {
			t.Fatal(a, got, want)
		}
	}
}

// P1.5
func TestParse(t *testing.T) {
	r := generator()
	list := append([]int{}, edges...)
	for range 20000 {
		list = append(list, someAmount(r))
	}
	for _, a := range list {
		if got, err := Parse(Text(a)); err != api.OK || got != a {
			t.Fatal(a, got, err)
		}
	}
}

// P1.5
func TestParseSyntax(t *testing.T) {
	list := []string{
		"", "-", ".", "-.", "0", "1", "-1", "1.", "1.0", "1.000", "12.045", "1.00000", ".0000", "-.0001",
		"012.0450", "00.0000", "01.0000", "-01.0000", "-0.0000", "-00.0001", "--1.0000", "---0.0001", "+1.0000", "+0.0000",
		"1,0000", "1.0000.", "1..0000", "1.0000.0000", "1.00.00", "1.-000", "1.+000", "-1.-001", "1-.0000", "1.000-",
		" 1.0000", "1.0000 ", "1 .0000", "1.0000\n", "1.0000\x00", "1_0.0000", "1.00_0", "1e3.0000", "0x1.0000", "a.0000", "1.000a",
		"1/.0000", "1:.0000", "1.000/", "1.000:", "\u0661.0000", "1.\u0661\u0661", "1.000\xff", "\xff.0000",
		"99999999999999999999999999.000", "099999999999999999999999999.0000", "9999999999999999999x9999999.0000", "99999999999999999999999999",
	}
	for _, s := range list {
		if got, err := Parse(s); got != 0 || err != api.ErrSyntax {
			t.Errorf("%q %d %d", s, got, err)
		}
	}
}

// P1.5
func TestParseRange(t *testing.T) {
	list := []string{
		"112589990684.2625", "-112589990684.2625", "112589990685.0000", "999999999999.9999",
		"922337203685477.5807", "-922337203685477.5808", "922337203685477.5808",
		"999999999999999.9999", "1844674407370955.1616", "1844674407370955.1617", "9999999999999999.9999",
		"10000000000000000.0000", "18446744073709551616.0001", "999999999999999999999.0000", "-100000000000000000000000000.0000",
		"1" + strings.Repeat("0", 10000) + ".0000",
	}
	for _, s := range list {
		if got, err := Parse(s); got != 0 || err != api.ErrRange {
			t.Errorf("%q %d %d", s, got, err)
		}
	}
}
