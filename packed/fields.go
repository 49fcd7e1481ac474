package packed

import "billing/api"

// Bytes of the fields of a record; the kind has one.
const (
	sourceSize = 1
	serialSize = 5
	phoneSize  = 8
	startSize  = 6
	unitsSize  = 7
	callSize   = 5
	partSize   = 1
	trunkSize  = 2
)

// The low four bits of the byte with the kind.
const (
	lastBit    = 1
	inboundBit = 2
	kindBits   = 4 // so far the kind is shifted
)

// write returns the fields of a valid record.
func write(r api.Record) []byte {
	b := make([]byte, 0, api.PackedSize)
	b = appendDecimal(b, r.Source, sourceSize)
	b = appendDecimal(b, r.Serial, serialSize)
	b = append(b, kindByte(r))
	b = appendPhone(b, r.A)
	b = appendPhone(b, r.B)
	b = appendDecimal(b, r.Start, startSize)
	b = appendDecimal(b, r.Units, unitsSize)
	b = appendDecimal(b, r.Call, callSize)
	b = appendDecimal(b, r.Part, partSize)
	return appendDecimal(b, r.Trunk, trunkSize)
}

// kindByte returns the byte with the kind of a record.
func kindByte(r api.Record) byte {
	b := byte(r.Kind << kindBits)
	if r.Last {
		b |= lastBit
	}
	if r.Inbound {
		b |= inboundBit
	}
	return b
}

// appendPhone appends the field of a telephone number, or of an empty one.
func appendPhone(b []byte, s string) []byte {
	var field [phoneSize]byte
	field[0] = byte(len(s)) << 4
	for i := range len(s) {
		digit := s[i] - '0'
		group := i + 1 // behind the number of digits
		if group%2 == 0 {
			digit <<= 4
		}
		field[group/2] |= digit
	}
	return append(b, field[:]...)
}

// read returns the record with the given fields, valid or not, or false if one of them does not have its form.
func read(b []byte) (api.Record, bool) {
	f := reader{rest: b}
	var r api.Record
	r.Source, r.Serial = f.decimal(sourceSize), f.decimal(serialSize)
	r.Kind, r.Last, r.Inbound = f.kind()
	r.A, r.B = f.phone(), f.phone()
	r.Start, r.Units = f.decimal(startSize), f.decimal(unitsSize)
	r.Call, r.Part, r.Trunk = f.decimal(callSize), f.decimal(partSize), f.decimal(trunkSize)
	return r, !f.wrong
}

// reader takes one field of a record after the other. wrong is set as soon as one does not have its form; what is read then means nothing.
type reader struct {
	rest  []byte // the fields that were not taken yet, of which there must be enough
	wrong bool
}

// take takes the next bytes, without the following ones as spare capacity.
func (r *reader) take(size int) []byte {
	field := r.rest[:size:size]
	r.rest = r.rest[size:]
	return field
}

// decimal takes the next field, a packed decimal.
func (r *reader) decimal(size int) int {
	n, err := Decimal(r.take(size))
	if err != api.OK {
		r.wrong = true
	}
	return n
}

// kind takes the next byte, with the kind and whether Last and Inbound are set.
func (r *reader) kind() (kind int, last, inbound bool) {
	b := r.take(1)[0]
	flags := b & 15
	if flags > lastBit+inboundBit {
		r.wrong = true
	}
	return int(b >> kindBits), flags&lastBit != 0, flags&inboundBit != 0
}

// phone takes the next field, a telephone number or an empty one.
func (r *reader) phone() string {
	field := r.take(phoneSize)
	count := int(field[0] >> 4)
	var text []byte
	for i := 1; i < 2*phoneSize; i++ {
		group := field[i/2] >> 4
		if i%2 == 1 {
			group = field[i/2] & 15
		}
		switch {
		case i <= count && group <= 9:
			text = append(text, '0'+group)
		case i <= count || group != 0:
			r.wrong = true
		}
	}
	return string(text)
}
