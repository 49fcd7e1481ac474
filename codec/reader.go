package codec

import "billing/api"

// maxBytes is the greatest number of bytes of a number.
const maxBytes = 10

// reader decodes one thing after the other. After an error it only returns zero values and keeps the error.
type reader struct {
	rest []byte // what is not decoded yet: a part of an argument, which is only read
	err  api.Errno
}

// result returns what was decoded and a copy of the remaining bytes, or the error and nothing else.
func result[T any](r reader, value T) (T, []byte, api.Errno) {
	if r.err != api.OK {
		var nothing T
		return nothing, nil, r.err
	}
	rest := make([]byte, len(r.rest))
	copy(rest, r.rest)
	return value, rest, api.OK
}

// number decodes a number.
func (r *reader) number() int {
	u, size, err := decode(r.rest)
	if r.err == api.OK {
		r.err = err
	}
	if r.err != api.OK {
		return 0
	}
	r.rest = r.rest[size:]
	if u&1 == 1 {
		return int(^(u >> 1))
	}
	return int(u >> 1)
}

// decode returns the groups of seven bits at the beginning of b, and the number of their bytes.
func decode(b []byte) (u uint64, size int, err api.Errno) {
	for i, x := range b {
		if i == maxBytes-1 && x != 1 {
			return 0, 0, api.ErrSyntax
		}
		u |= uint64(x&127) << (7 * i)
		if x >= 128 {
			continue
		}
		if i > 0 && x == 0 {
			return 0, 0, api.ErrSyntax
		}
		return u, i + 1, api.OK
	}
	return 0, 0, api.ErrTruncated
}

// length decodes the length of a text or of a list.
func (r *reader) length() int {
	n := r.number()
	if n < 0 {
		r.err = api.ErrSyntax
	} else if n > api.MaxFrame {
		r.err = api.ErrTooLong
	}
	return n
}

// text decodes a text.
func (r *reader) text() string {
	n := r.length()
	if r.err == api.OK && n > len(r.rest) {
		r.err = api.ErrTruncated
	}
	if r.err != api.OK {
		return ""
	}
	s := string(r.rest[:n])
	r.rest = r.rest[n:]
	return s
}

// numbers decodes a list of numbers.
func (r *reader) numbers() []int {
	n := r.length()
	var list []int
	for i := 0; i < n && r.err == api.OK; i++ {
		list = append(list, r.number())
	}
	return list
}

// truth decodes a boolean.
func (r *reader) truth() bool {
	n := r.number()
	if n < 0 || n > 1 {
		r.err = api.ErrSyntax
	}
	return n == 1
}

// record decodes a usage record; Go evaluates the calls in the order in which they are written.
func (r *reader) record() api.Record {
	return api.Record{
		Source:  r.number(),
		Serial:  r.number(),
		Kind:    r.number(),
		A:       r.text(),
		B:       r.text(),
		Start:   r.number(),
		Units:   r.number(),
		Call:    r.number(),
		Part:    r.number(),
		Last:    r.truth(),
		Trunk:   r.number(),
		Inbound: r.truth(),
	}
}
