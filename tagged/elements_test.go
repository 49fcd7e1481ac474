package tagged

import (
	"bytes"
	"math"
	"math/rand"
	"slices"
	"testing"

	"billing/api"
)

// modelBuild returns the bytes of a valid list of elements.
func modelBuild(list []api.Element) []byte {
	var b []byte
	for _, e := range list {
		b = slices.Concat(b, []byte{byte(e.Tag)}, []byte{byte(len(e.Value))}, e.Value)
	}
	return b
}

// modelElements decodes one element and then, with the tag that precedes them, the others.
func modelElements(b []byte, preceding byte) ([]api.Element, api.Errno) {
	if len(b) == 0 {
		return nil, api.OK
	}
	if b[0] == 0 {
		return nil, api.ErrRange
	}
	if b[0] <= preceding {
		return nil, api.ErrOrder
	}
	if len(b) == 1 || len(b) < 2+int(b[1]) {
		return nil, api.ErrTruncated
	}
	list, err := modelElements(b[2+int(b[1]):], b[0])
	if err != api.OK {
		return nil, err
	}
	return append([]api.Element{{Tag: int(b[0]), Value: b[2 : 2+int(b[1])]}}, list...), api.OK
}

// same reports whether two lists have the same elements.
func same(a, b []api.Element) bool {
	return slices.EqualFunc(a, b, func(x, y api.Element) bool { return x.Tag == y.Tag && bytes.Equal(x.Value, y.Value) })
}

// randomList returns a valid list of elements.
func randomList(rnd *rand.Rand) []api.Element {
	var list []api.Element
	for tag := 1; tag <= 255; tag += 1 + rnd.Intn(1+rnd.Intn(255)) {
		value := make([]byte, []int{0, 1, rnd.Intn(6), rnd.Intn(256), 255}[rnd.Intn(5)])
		rnd.Read(value)
		list = append(list, api.Element{Tag: tag, Value: value})
	}
	return list[rnd.Intn(len(list)):]
}

// fullList is the longest list: 255 elements with 255 bytes.
func fullList() []api.Element {
	var list []api.Element
	for tag := 1; tag <= 255; tag++ {
		list = append(list, api.Element{Tag: tag, Value: bytes.Repeat([]byte{byte(tag)}, 255)})
	}
	return list
}

// P10.1: the bytes of elements, with the smallest and the greatest tag and the longest value.
func TestBuild(t *testing.T) {
	long := bytes.Repeat([]byte{7}, 255)
	for _, x := range []struct {
		list []api.Element
		want []byte
	}{
		{nil, nil}, {[]api.Element{}, nil},
		{[]api.Element{{Tag: 5, Value: []byte{1, 2}}}, []byte{5, 2, 1, 2}},
		{[]api.Element{{Tag: 1}, {Tag: 2, Value: []byte{}}, {Tag: 255, Value: []byte{0}}}, []byte{1, 0, 2, 0, 255, 1, 0}},
		{[]api.Element{{Tag: 255, Value: long}}, append([]byte{255, 255}, long...)},
		{fullList(), modelBuild(fullList())},
	} {
		if b, err := Build(x.list); !bytes.Equal(b, x.want) || err != api.OK {
			t.Errorf("Build of %d elements = %.20x, %v, not %.20x", len(x.list), b, err, x.want)
		}
	}
}

// P10.1: the errors, for the first element that has one, in their order.
func TestBuildErrors(t *testing.T) {
	long := make([]byte, 256)
	for _, x := range []struct {
		list []api.Element
		want api.Errno
	}{
		{[]api.Element{{Tag: 0}}, api.ErrRange}, {[]api.Element{{Tag: -1}}, api.ErrRange}, {[]api.Element{{Tag: 256}}, api.ErrRange}, {[]api.Element{{Tag: math.MinInt}}, api.ErrRange}, {[]api.Element{{Tag: math.MaxInt}}, api.ErrRange},
		{[]api.Element{{Tag: 5}, {Tag: 5}}, api.ErrOrder}, {[]api.Element{{Tag: 5}, {Tag: 4}}, api.ErrOrder}, {[]api.Element{{Tag: 1}, {Tag: 255}, {Tag: 2}}, api.ErrOrder},
		{[]api.Element{{Tag: 5, Value: long}}, api.ErrTooLong}, {[]api.Element{{Tag: 5}, {Tag: 255, Value: append(long, long...)}}, api.ErrTooLong},
		// for one element, the error named first
		{[]api.Element{{Tag: 5}, {Tag: 0, Value: long}}, api.ErrRange}, {[]api.Element{{Tag: 256, Value: long}}, api.ErrRange}, {[]api.Element{{Tag: 5}, {Tag: 5, Value: long}}, api.ErrOrder},
		// of several elements, the first one
		{[]api.Element{{Tag: 5, Value: long}, {Tag: 0}}, api.ErrTooLong}, {[]api.Element{{Tag: 5}, {Tag: 4}, {Tag: 0}}, api.ErrOrder}, {[]api.Element{{Tag: 0}, {Tag: 0}}, api.ErrRange},
		{[]api.Element{{Tag: 5, Value: long}, {Tag: 4}}, api.ErrTooLong}, {[]api.Element{{Tag: 256}, {Tag: 5, Value: long}}, api.ErrRange}, {[]api.Element{{Tag: 5}, {Tag: 4}, {Tag: 6, Value: long}}, api.ErrOrder},
	} {
		if b, err := Build(x.list); len(b) != 0 || err != x.want {
			t.Errorf("Build of %d elements = %.20x, %v, not %v", len(x.list), b, err, x.want)
		}
	}
}

// P10.2: the elements of bytes, and the errors with their order.
func TestElements(t *testing.T) {
	for _, x := range []struct {
		b    string
		list []api.Element
		err  api.Errno
	}{
		{"", nil, api.OK},
		{"\x05\x02\x01\x02", []api.Element{{Tag: 5, Value: []byte{1, 2}}}, api.OK},
		{"\x01\x00\xff\x01\x00", []api.Element{{Tag: 1}, {Tag: 255, Value: []byte{0}}}, api.OK},
		{string(modelBuild(fullList())), fullList(), api.OK},
		{"\x00\x00", nil, api.ErrRange}, {"\x00", nil, api.ErrRange}, {"\x05\x00\x00", nil, api.ErrRange}, {"\x00\x05\x01", nil, api.ErrRange}, {"\x05\x00\x00\x05\x01", nil, api.ErrRange},
		{"\x02\x00\x01\x00", nil, api.ErrOrder}, {"\x02\x00\x02", nil, api.ErrOrder}, {"\x02\x01\x00\x02\x05", nil, api.ErrOrder},
		{"\x01", nil, api.ErrTruncated}, {"\x01\x02\x00", nil, api.ErrTruncated}, {"\x01\x01", nil, api.ErrTruncated}, {"\x01\x00\x02", nil, api.ErrTruncated}, {"\x01\x00\x02\x03\x02\x00", nil, api.ErrTruncated},
		{"\x05\xff\x00\x00", nil, api.ErrTruncated},
	} {
		if list, err := Elements([]byte(x.b)); !same(list, x.list) || err != x.err {
			t.Errorf("Elements(%.20x) = %v, %v, not %v", x.b, list, err, x.err)
		}
	}
}

// P10.2, P10.6: all sequences of up to six of some bytes, and random ones, against the model; Build reverses Elements.
func TestElementsAgainstModel(t *testing.T) {
	check := func(b []byte) {
		list, err := Elements(b)
		want, e := modelElements(b, 0)
		if !same(list, want) || err != e {
			t.Fatalf("Elements(%x) = %v, %v, not %v, %v", b, list, err, want, e)
		}
		if err != api.OK {
			return
		}
		if back, err := Build(list); !bytes.Equal(back, b) || err != api.OK {
			t.Fatalf("Build of Elements of %x = %x, %v", b, back, err)
		}
	}
	some := []byte{0, 1, 2, 3, 4, 255}
	for size := range 7 {
		b := make([]byte, size)
		for i := range int(math.Pow(float64(len(some)), float64(size))) {
			for j := range b {
				b[j] = some[i%len(some)]
				i /= len(some)
			}
			check(b)
		}
	}
	rnd := rand.New(rand.NewSource(102))
	for range 3000 {
		b := modelBuild(randomList(rnd))
		b[rnd.Intn(len(b))] = byte(rnd.Intn(256))
		check(b)
		check(b[:rnd.Intn(len(b))])
	}
}

// P10.6: Elements reverses Build.
func TestElementsOfBuild(t *testing.T) {
	rnd := rand.New(rand.NewSource(106))
	for range 3000 {
		list := randomList(rnd)
		b, err := Build(list)
		if !bytes.Equal(b, modelBuild(list)) || err != api.OK {
			t.Fatalf("Build(%v) = %x, %v", list, b, err)
		}
		if got, err := Elements(b); !same(got, list) || err != api.OK {
			t.Fatalf("Elements(%x) = %v, %v, not %v", b, got, err, list)
		}
	}
}

// R5: results are new memory, and arguments stay as they are, with their spare capacity.
func TestNewMemory(t *testing.T) {
	memory := bytes.Repeat([]byte{77}, 20)
	b, err := Build([]api.Element{{Tag: 1, Value: memory[:3]}, {Tag: 2, Value: memory[3:3]}, {Tag: 3, Value: memory[3:4]}})
	if !bytes.Equal(memory, bytes.Repeat([]byte{77}, 20)) || err != api.OK {
		t.Error("Build changed its argument", err)
	}
	clear(memory)
	want := []byte{1, 3, 77, 77, 77, 2, 0, 3, 1, 77}
	if !bytes.Equal(b, want) {
		t.Errorf("Build shares memory: %x", b)
	}
	b = append(b, 5)[:len(want)] // with spare capacity
	list, err := Elements(b)
	if len(list) != 3 || err != api.OK {
		t.Fatal(list, err)
	}
	for _, e := range list {
		_ = append(e.Value, 6, 6, 6, 6, 6, 6)
		if !bytes.Equal(b, want) || b[:len(want)+1][len(want)] != 5 {
			t.Errorf("the value of %d shares memory with the argument", e.Tag)
		}
	}
	clear(b)
	clear(list[0].Value)
	if list[0].Tag != 1 || list[2].Tag != 3 || !bytes.Equal(list[2].Value, []byte{77}) {
		t.Error("Elements shares memory:", list)
	}
	_ = append(list[0].Value[:0], bytes.Repeat([]byte{9}, cap(list[0].Value))...)
	if !bytes.Equal(list[2].Value, []byte{77}) {
		t.Error("values share memory:", list)
	}
}
