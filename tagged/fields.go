package tagged

import (
	"billing/api"
	"billing/digits"
)

// Tags of the fields of a record.
const (
	tagKind = iota + 1
	tagSource
	tagSerial
	tagA
	tagB
	tagStart
	tagUnits
	tagCall
	tagPart
	tagTrunk
	tagFlags
)

// Flags, which are added.
const (
	flagLast    = 1
	flagInbound = 2
)

// maxNumber is the greatest number of bytes of a number.
const maxNumber = 6

// elements returns the elements of a valid record.
func elements(r api.Record) []api.Element {
	a, _ := digits.Pack(r.A)
	b, _ := digits.Pack(r.B) // nothing if B is empty
	values := [...][]byte{
		tagKind:   shortest(r.Kind),
		tagSource: shortest(r.Source),
		tagSerial: shortest(r.Serial),
		tagA:      a,
		tagB:      b,
		tagStart:  shortest(r.Start),
		tagUnits:  shortest(r.Units),
		tagCall:   shortest(r.Call),
		tagPart:   shortest(r.Part),
		tagTrunk:  shortest(r.Trunk),
		tagFlags:  shortest(flags(r)),
	}
	var list []api.Element
	for tag, value := range values {
		if len(value) > 0 {
			list = append(list, api.Element{Tag: tag, Value: value})
		}
	}
	return list
}

// shortest returns a number that is not negative in as few bytes as possible, the highest one first: 0 has none.
func shortest(n int) []byte {
	size := 0
	for n>>(8*size) > 0 {
		size++
	}
	b := make([]byte, size)
	for i := range b {
		b[i] = byte(n >> (8 * (size - 1 - i)))
	}
	return b
}

// flags returns the sum of the flags of a record.
func flags(r api.Record) int {
	sum := 0
	if r.Last {
		sum += flagLast
	}
	if r.Inbound {
		sum += flagInbound
	}
	return sum
}

// record returns the record with the fields of a list of elements, valid or not, or false if one of them does not have the form of its field.
func record(list []api.Element) (api.Record, bool) {
	var r api.Record
	for _, e := range list {
		if !set(&r, e.Tag, e.Value) {
			return api.Record{}, false
		}
	}
	return r, true
}

// set sets the field with a tag, or returns false if there is none or the value does not have its form.
func set(r *api.Record, tag int, value []byte) bool {
	switch tag {
	case tagKind:
		return setNumber(&r.Kind, value)
	case tagSource:
		return setNumber(&r.Source, value)
	case tagSerial:
		return setNumber(&r.Serial, value)
	case tagA:
		return setDigits(&r.A, value)
	case tagB:
		return setDigits(&r.B, value)
	case tagStart:
		return setNumber(&r.Start, value)
	case tagUnits:
		return setNumber(&r.Units, value)
	case tagCall:
		return setNumber(&r.Call, value)
	case tagPart:
		return setNumber(&r.Part, value)
	case tagTrunk:
		return setNumber(&r.Trunk, value)
	case tagFlags:
		return setFlags(r, value)
	}
	return false
}

// setNumber sets a field that is a number.
func setNumber(field *int, value []byte) bool {
	if len(value) < 1 || len(value) > maxNumber || value[0] == 0 {
		return false
	}
	n := 0
	for _, x := range value {
		n = n<<8 | int(x)
	}
	*field = n
	return true
}

// setDigits sets a field that is a telephone number.
func setDigits(field *string, value []byte) bool {
	s, err := digits.Unpack(value)
	*field = s
	return err == api.OK
}

// setFlags sets the fields that flags stand for.
func setFlags(r *api.Record, value []byte) bool {
	if len(value) != 1 || value[0] < flagLast || value[0] > flagLast+flagInbound {
		return false
	}
	r.Last = value[0]&flagLast != 0
	r.Inbound = value[0]&flagInbound != 0
	return true
}
