package packed

import (
	"bytes"
	"encoding/hex"
	"fmt"
	"math"
	"math/rand"
	"slices"
	"strconv"
	"strings"
	"testing"

	"billing/api"
)

// unhex returns the bytes that are written in hexadecimal, with spaces between them or not.
func unhex(s string) []byte {
	b, err := hex.DecodeString(strings.ReplaceAll(s, " ", ""))
	if err != nil {
		panic(err)
	}
	return b
}

// modelDecimal returns the packed decimal of a number: its digits, read as hexadecimal ones.
func modelDecimal(n, size int) []byte {
	return unhex(fmt.Sprintf("%0*d", 2*size, n))
}

// someSizes are the sizes of packed decimals, with the least number that does not fit.
func someSizes() map[int]int {
	return map[int]int{1: 100, 2: 10000, 3: 1000000, 4: 100000000, 5: 10000000000, 6: 1000000000000, 7: 100000000000000, 8: 10000000000000000, 9: 1000000000000000000}
}

// P11.1: the packed decimals of each size, and what was in front of them. P11.6: Decimal reverses PutDecimal.
func TestPutDecimal(t *testing.T) {
	rnd := rand.New(rand.NewSource(111))
	for size, limit := range someSizes() {
		list := []int{0, 1, 9, 10, 99, limit/100 - 1, limit / 100 % limit, limit / 10, limit - 2, limit - 1}
		for range 500 {
			list = append(list, rnd.Intn(limit), rnd.Intn(1+rnd.Intn(limit)))
		}
		for _, n := range list {
			b, err := PutDecimal([]byte{7, 0, 255}, n, size)
			if want := append([]byte{7, 0, 255}, modelDecimal(n, size)...); !bytes.Equal(b, want) || err != api.OK {
				t.Fatalf("PutDecimal(%d, %d) = %x, %v, not %x", n, size, b, err, want)
			}
			if m, err := Decimal(b[3:]); m != n || err != api.OK {
				t.Fatalf("Decimal(%x) = %d, %v, not %d", b[3:], m, err, n)
			}
		}
	}
	if b, err := PutDecimal(nil, 1234, 3); !bytes.Equal(b, []byte{0, 0x12, 0x34}) || err != api.OK {
		t.Errorf("%x, %v", b, err)
	}
}

// P11.1: sizes and numbers beyond the limits, and nothing beside the error (R3).
func TestPutDecimalErrors(t *testing.T) {
	refused := func(n, size int) {
		if b, err := PutDecimal([]byte{1, 2}, n, size); len(b) != 0 || err != api.ErrRange {
			t.Errorf("PutDecimal(%d, %d) = %x, %v", n, size, b, err)
		}
	}
	for _, size := range []int{0, -1, 10, 11, 64, math.MinInt, math.MaxInt} {
		for _, n := range []int{0, 1, -1, math.MaxInt} {
			refused(n, size)
		}
	}
	for size, limit := range someSizes() {
		for _, n := range []int{-1, -99, math.MinInt, limit, limit + 1, math.MaxInt} {
			refused(n, size)
		}
	}
}

// P11.2, P11.6: all sequences of one and two bytes: they are packed decimals if they look like decimal numbers in hexadecimal.
func TestDecimal(t *testing.T) {
	check := func(b []byte) {
		want, bad := strconv.ParseInt(hex.EncodeToString(b), 10, 64)
		n, err := Decimal(b)
		if bad != nil {
			if n != 0 || err != api.ErrSyntax {
				t.Fatalf("Decimal(%x) = %d, %v", b, n, err)
			}
			return
		}
		if n != int(want) || err != api.OK {
			t.Fatalf("Decimal(%x) = %d, %v, not %d", b, n, err, want)
		}
		if back, err := PutDecimal(nil, n, len(b)); !bytes.Equal(back, b) || err != api.OK {
			t.Fatalf("PutDecimal(%d, %d) = %x, %v, not %x", n, len(b), back, err, b)
		}
	}
	for i := range 1 << 16 {
		check([]byte{byte(i)})
		check([]byte{byte(i), byte(i >> 8)})
	}
	rnd := rand.New(rand.NewSource(112))
	for range 20000 {
		b := modelDecimal(rnd.Intn(1000000000000000000), 9)[rnd.Intn(9):]
		check(b)
		b[rnd.Intn(len(b))] = byte(rnd.Intn(256))
		check(b)
	}
}

// P11.2: ErrRange comes before ErrSyntax.
func TestDecimalErrors(t *testing.T) {
	for _, b := range [][]byte{nil, {}, make([]byte, 10), bytes.Repeat([]byte{255}, 10), make([]byte, 100), append(make([]byte, 9), 0x0a)} {
		if n, err := Decimal(b); n != 0 || err != api.ErrRange {
			t.Errorf("Decimal(%x) = %d, %v", b, n, err)
		}
	}
	for _, s := range []string{"0a", "a0", "f0", "0f", "ff", "99999999999999999a", "a99999999999999999", "00000000a000000000", "1234567890123f"} {
		if n, err := Decimal(unhex(s)); n != 0 || err != api.ErrSyntax {
			t.Errorf("Decimal(%s) = %d, %v", s, n, err)
		}
	}
}

// R5: PutDecimal writes to new memory, and not into the spare capacity of its argument.
func TestPutDecimalIsNewMemory(t *testing.T) {
	memory := bytes.Repeat([]byte{77}, 30)
	before := slices.Clone(memory)
	out, err := PutDecimal(memory[:5], 123456, 4)
	if !bytes.Equal(memory, before) || err != api.OK {
		t.Error("PutDecimal changed its argument", memory, err)
	}
	clear(memory)
	if !bytes.Equal(out, append(before[:5], 0, 0x12, 0x34, 0x56)) {
		t.Errorf("PutDecimal shares memory with its argument: %x", out)
	}
	b := unhex("1234")
	if n, _ := Decimal(b); n != 1234 || !bytes.Equal(b, unhex("1234")) {
		t.Error(n, b)
	}
}
