package tagged

import "billing/api"

const (
	maxTag   = 255
	maxValue = 255 // bytes of a value
	headSize = 2   // bytes of a tag and of the length of its value
)

// Build returns the bytes of elements.
func Build(list []api.Element) ([]byte, api.Errno) {
	var b []byte
	preceding := 0
	for _, e := range list {
		switch {
		case e.Tag < 1 || e.Tag > maxTag:
			return nil, api.ErrRange
		case e.Tag <= preceding:
			return nil, api.ErrOrder
		case len(e.Value) > maxValue:
			return nil, api.ErrTooLong
		}
		b = put(b, e)
		preceding = e.Tag
	}
	return b, api.OK
}

// Elements returns the elements of bytes.
func Elements(b []byte) ([]api.Element, api.Errno) {
	var list []api.Element
	preceding := 0
	for rest := b; len(rest) > 0; {
		tag := int(rest[0])
		switch {
		case tag == 0:
			return nil, api.ErrRange
		case tag <= preceding:
			return nil, api.ErrOrder
		case len(rest) < headSize || len(rest)-headSize < int(rest[1]):
			return nil, api.ErrTruncated
		}
		end := headSize + int(rest[1])
		value := append([]byte{}, rest[headSize:end]...)
		list = append(list, api.Element{Tag: tag, Value: value})
		rest = rest[end:]
		preceding = tag
	}
	return list, api.OK
}

// put appends the bytes of elements that form a valid list.
func put(b []byte, elements ...api.Element) []byte {
	for _, e := range elements {
		b = append(b, byte(e.Tag), byte(len(e.Value)))
		b = append(b, e.Value...)
	}
	return b
}
