package frame

import (
	"bytes"
	"encoding/binary"
	"hash/fnv"
	"math"
	"math/rand"
	"slices"
	"testing"

	"billing/api"
	"billing/codec"
)

// modelSum returns the checksum, by numbers of 64 bits.
func modelSum(b []byte) uint32 {
	sum := uint64(2166136261)
	for _, x := range b {
		sum = (sum ^ uint64(x)) * 16777619 % (1 << 32)
	}
	return uint32(sum)
}

// modelFrame returns the frame of a payload.
func modelFrame(payload []byte) []byte {
	b := codec.PutNumber(nil, len(payload))
	b = binary.BigEndian.AppendUint32(b, modelSum(payload))
	return append(b, payload...)
}

// randomBytes returns up to n random bytes.
func randomBytes(rnd *rand.Rand, n int) []byte {
	b := make([]byte, rnd.Intn(n+1))
	rnd.Read(b)
	return b
}

// randomPayloads returns up to n payloads, some of them empty and some with lengths of two bytes.
func randomPayloads(rnd *rand.Rand, n int) [][]byte {
	var list [][]byte
	for range rnd.Intn(n + 1) {
		list = append(list, randomBytes(rnd, []int{0, 3, 150}[rnd.Intn(3)]))
	}
	return list
}

// long is a payload of one byte more than a frame may have.
func long() []byte { return bytes.Repeat([]byte{3}, api.MaxFrame+1) }

// P8.1: the examples, and the checksums of random bytes.
func TestSum(t *testing.T) {
	for s, want := range map[string]uint32{"": 2166136261, "a": 3826002220, "foobar": 3214735720, "\x00": 84696351, "\xff\xff": 3508452515} {
		if sum := Sum([]byte(s)); sum != want {
			t.Errorf("Sum(%q) = %d, not %d", s, sum, want)
		}
	}
	if Sum(nil) != 2166136261 {
		t.Error(Sum(nil))
	}
	rnd := rand.New(rand.NewSource(81))
	for range 1000 {
		b := randomBytes(rnd, 40)
		hash := fnv.New32a()
		hash.Write(b)
		if sum := Sum(b); sum != hash.Sum32() || sum != modelSum(b) {
			t.Fatalf("Sum(%v) = %d, not %d", b, sum, hash.Sum32())
		}
	}
}

// P8.2: frames of payloads up to the greatest length.
func TestWrap(t *testing.T) {
	examples := []struct{ payload, want []byte }{
		{nil, []byte{0, 129, 28, 157, 197}}, {[]byte{}, []byte{0, 129, 28, 157, 197}}, {[]byte{97}, []byte{2, 228, 12, 41, 44, 97}},
	}
	for _, x := range examples {
		if b, err := Wrap(x.payload); !bytes.Equal(b, x.want) || err != api.OK {
			t.Errorf("Wrap(%v) = %v, %v, not %v", x.payload, b, err, x.want)
		}
	}
	for _, n := range []int{63, 64, 8191, 8192, api.MaxFrame - 1, api.MaxFrame} {
		payload := long()[:n]
		if b, err := Wrap(payload); !bytes.Equal(b, modelFrame(payload)) || err != api.OK {
			t.Errorf("Wrap of %d bytes: %d bytes, %v", n, len(b), err)
		}
	}
	if b, err := Wrap(long()); len(b) != 0 || err != api.ErrTooLong {
		t.Error(len(b), err)
	}
}

// P8.2: Join returns the frames one after the other.
func TestJoin(t *testing.T) {
	rnd := rand.New(rand.NewSource(82))
	for range 500 {
		list := randomPayloads(rnd, 5)
		var want []byte
		for _, payload := range list {
			want = append(want, modelFrame(payload)...)
		}
		if b, err := Join(list); !bytes.Equal(b, want) || err != api.OK {
			t.Fatalf("Join(%v) = %v, %v, not %v", list, b, err, want)
		}
	}
	for _, list := range [][][]byte{{long()}, {nil, long()}, {long(), {1}}, {long()[1:], long()}} {
		if b, err := Join(list); len(b) != 0 || err != api.ErrTooLong {
			t.Error(len(b), err)
		}
	}
	if b, err := Join([][]byte{long()[1:], long()[1:]}); len(b) != 2*(api.MaxFrame+8) || err != api.OK {
		t.Error(len(b), err)
	}
}

// P8.3: the errors of Unwrap, and their order.
func TestUnwrapErrors(t *testing.T) {
	number := func(n int, behind ...byte) []byte { return append(codec.PutNumber(nil, n), behind...) }
	tooLong := append(codec.PutNumber(nil, api.MaxFrame+1), 0, 0, 0, 0)
	examples := []struct {
		b    []byte
		want api.Errno
	}{
		{nil, api.ErrTruncated}, {[]byte{}, api.ErrTruncated}, {[]byte{128}, api.ErrTruncated}, {[]byte{255, 255}, api.ErrTruncated},
		{[]byte{128, 0}, api.ErrSyntax}, {[]byte{128, 0, 129, 28, 157, 197}, api.ErrSyntax}, {append(bytes.Repeat([]byte{255}, 9), 2), api.ErrSyntax},
		{bytes.Repeat([]byte{255}, 9), api.ErrTruncated}, {bytes.Repeat([]byte{255}, 20), api.ErrSyntax},
		{number(-1), api.ErrSyntax}, {number(-1, 129, 28, 157, 197), api.ErrSyntax}, {number(math.MinInt, 1, 2, 3, 4), api.ErrSyntax},
		{number(api.MaxFrame + 1), api.ErrTooLong}, {append(tooLong, long()...), api.ErrTooLong}, {number(math.MaxInt, 1, 2, 3, 4), api.ErrTooLong},
		{number(api.MaxFrame, 1, 2, 3, 4, 5), api.ErrTruncated}, {append(number(api.MaxFrame, 1, 2, 3, 4), long()[2:]...), api.ErrTruncated},
		{[]byte{0}, api.ErrTruncated}, {[]byte{0, 129, 28, 157}, api.ErrTruncated}, {[]byte{2, 0, 0, 0, 0}, api.ErrTruncated}, {[]byte{4, 228, 12, 41, 44, 97}, api.ErrTruncated},
		{[]byte{0, 129, 28, 157, 196}, api.ErrChecksum}, {[]byte{0, 129, 28, 157, 196, 5}, api.ErrChecksum}, {[]byte{2, 228, 12, 41, 44, 98}, api.ErrChecksum},
		{[]byte{0, 197, 157, 28, 129}, api.ErrChecksum}, {append(number(api.MaxFrame, 1, 2, 3, 4), long()[1:]...), api.ErrChecksum},
	}
	for _, x := range examples {
		if payload, rest, err := Unwrap(x.b); len(payload)+len(rest) != 0 || err != x.want {
			t.Errorf("Unwrap(%.20q) = %d bytes, %d bytes, %v, not %v", x.b, len(payload), len(rest), err, x.want)
		}
	}
}

// P8.3, P8.5: Unwrap returns the payload of a frame and the bytes behind it, also for the greatest length.
func TestUnwrap(t *testing.T) {
	rnd := rand.New(rand.NewSource(83))
	for i := range 1000 {
		payload, behind := randomBytes(rnd, 200), randomBytes(rnd, 20)
		if i == 0 {
			payload = long()[1:]
		}
		b, err := Wrap(payload)
		if !bytes.Equal(b, modelFrame(payload)) || err != api.OK {
			t.Fatal(len(payload), err)
		}
		got, rest, err := Unwrap(append(b, behind...))
		if !bytes.Equal(got, payload) || !bytes.Equal(rest, behind) || err != api.OK {
			t.Fatalf("Unwrap of the frame of %v and %v = %v, %v, %v", payload, behind, got, rest, err)
		}
	}
}

// P8.5: what Unwrap accepts is the frame of its result and the remaining bytes.
func TestUnwrapOneForm(t *testing.T) {
	rnd := rand.New(rand.NewSource(85))
	accepted := 0
	for range 100000 {
		payload := randomBytes(rnd, 2)
		b := append(modelFrame(payload), randomBytes(rnd, 3)...)
		b[rnd.Intn(len(b))] = []byte{0, 1, 2, 4, 128}[rnd.Intn(5)]
		got, rest, err := Unwrap(b)
		if err != api.OK {
			continue
		}
		accepted++
		if !bytes.Equal(append(modelFrame(got), rest...), b) {
			t.Fatalf("Unwrap(%v) = %v, %v", b, got, rest)
		}
	}
	if accepted < 1000 {
		t.Error("only", accepted)
	}
}

// P8.4, P8.5: All of Join is the payloads, and ends where Unwrap has an error.
func TestAll(t *testing.T) {
	bad := [][]byte{{}, {128}, {128, 0}, {1, 129, 28, 157, 197}, {130, 128, 128, 1}, {2, 228, 12}, {2, 228, 12, 41, 44, 98, 0, 129, 28, 157, 197}}
	rnd := rand.New(rand.NewSource(84))
	for range 500 {
		list := randomPayloads(rnd, 6)
		b, _ := Join(list)
		for _, behind := range bad {
			got, size := All(append(slices.Clone(b), behind...))
			if !slices.EqualFunc(got, list, bytes.Equal) || size != len(b) {
				t.Fatalf("All of the frames of %v and %v = %v, %d, not %d", list, behind, got, size, len(b))
			}
		}
	}
	if list, size := All(nil); len(list) != 0 || size != 0 {
		t.Error(list, size)
	}
	if list, size := All([]byte{2, 228, 12, 41, 44, 97, 2, 228}); len(list) != 1 || string(list[0]) != "a" || size != 6 {
		t.Error(list, size)
	}
}

// P8.4: the time of All does not grow with the square of the bytes; it would not end here.
func TestAllOfMany(t *testing.T) {
	b := bytes.Repeat([]byte{0, 129, 28, 157, 197}, 1<<20)
	if list, size := All(b); len(list) != 1<<20 || size != len(b) {
		t.Error(len(list), size)
	}
}

// P8.6: of frames that end anywhere, All finds the whole ones, and Unwrap says that the rest is truncated.
func TestTorn(t *testing.T) {
	rnd := rand.New(rand.NewSource(86))
	for range 50 {
		list := randomPayloads(rnd, 5)
		b, _ := Join(list)
		whole, end := 0, 0 // the whole frames of the first n bytes, and where they end
		for n := range len(b) + 1 {
			if whole < len(list) && n == end+len(modelFrame(list[whole])) {
				whole, end = whole+1, n
			}
			got, size := All(b[:n:n])
			if !slices.EqualFunc(got, list[:whole], bytes.Equal) || size != end {
				t.Fatalf("All of %d bytes of the frames of %v = %v, %d, not %d", n, list, got, size, end)
			}
			if _, _, err := Unwrap(b[end:n:n]); end < n && err != api.ErrTruncated {
				t.Fatalf("Unwrap(%v) = %v", b[end:n], err)
			}
		}
	}
}

// P8.7: a single changed byte of the checksum or of the payload is found.
func TestChanged(t *testing.T) {
	rnd := rand.New(rand.NewSource(87))
	for range 30 {
		payload := randomBytes(rnd, 100)
		b := append(modelFrame(payload), 0, 129)
		for i := len(b) - 2 - len(payload) - 4; i < len(b)-2; i++ {
			for d := range 255 {
				b[i] ^= byte(d + 1)
				if got, rest, err := Unwrap(b); len(got)+len(rest) != 0 || err != api.ErrChecksum {
					t.Fatalf("Unwrap(%v), changed at %d: %v, %v, %v", b, i, got, rest, err)
				}
				b[i] ^= byte(d + 1)
			}
		}
	}
}

// R5: results are new memory, and arguments stay as they are, with their spare capacity.
func TestNewMemory(t *testing.T) {
	memory := bytes.Repeat([]byte{77}, 100)
	before := slices.Clone(memory)
	b, _ := Wrap(memory[:5])
	c, _ := Join([][]byte{memory[:5], memory[5:6], nil})
	if !bytes.Equal(memory, before) {
		t.Error("Wrap or Join changed its argument")
	}
	payload, rest, err := Unwrap(c)
	list, size := All(c)
	if err != api.OK || size != len(c) || len(list) != 3 {
		t.Fatal(err, size, list)
	}
	clear(memory)
	clear(c)
	parts := [][]byte{b[5:], payload, rest[5:6], list[0], list[1]}
	wants := [][]byte{before[:5], before[:5], before[:1], before[:5], before[:1]}
	for i, part := range parts {
		if !bytes.Equal(part, wants[i]) {
			t.Errorf("part %d is %v", i, part)
		}
	}
	_ = append(payload, 1, 2, 3)
	_ = append(list[0], 1, 2, 3)
	clear(payload)
	if !bytes.Equal(rest[5:6], before[:1]) || !bytes.Equal(list[1], before[:1]) || !bytes.Equal(c, make([]byte, len(c))) {
		t.Error("results share memory")
	}
}
