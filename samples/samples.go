// Package samples makes usage records, customer events, tariffs, expressions and instants for the tests of the layers that handle them; the program itself does not call it.
package samples

import "billing/api"

// Record returns a record with each field at a limit, just beyond it, or anywhere between; most of these records are valid. choose(n) chooses a number from 0 to n-1.
func Record(choose func(n int) int) api.Record {
	r := api.Record{
		Source: number(choose, 1, api.MaxSource),
		Serial: number(choose, 1, api.MaxSerial),
		Kind:   number(choose, api.KindVoice, api.Kinds-1),
		A:      digits(choose),
		B:      digits(choose),
		Start:  number(choose, 0, api.Forever-1),
	}
	r.Units = number(choose, 0, api.MaxUnits)
	if r.Kind == api.KindVoice {
		r.Units = number(choose, 0, api.MaxCall)
	}
	if r.B != "" && r.Kind >= api.KindData && choose(2) == 0 {
		r.B = ""
	}
	if choose(2) == 0 {
		r.Call, r.Part, r.Last = number(choose, 1, api.MaxSerial), number(choose, 1, api.MaxParts), choose(2) == 0
	}
	if choose(2) == 0 {
		r.Trunk, r.Inbound = number(choose, 1, api.MaxTrunk), choose(2) == 0
	}
	if choose(40) == 0 {
		r.Last = !r.Last
	}
	if choose(40) == 0 {
		r.Inbound = !r.Inbound
	}
	return r
}

// number returns a number from least to most, or, seldom, one that is not.
func number(choose func(n int) int, least, most int) int {
	switch choose(100) {
	case 0:
		return least - 1
	case 1:
		return most + 1
	case 2:
		return -most
	case 3, 4, 5, 6, 7:
		return least
	case 8, 9, 10, 11, 12:
		return most
	}
	return least + choose(choose(most-least+1)+1) // so that short numbers are not rare
}

// digits returns a telephone number, or, seldom, a string that is none.
func digits(choose func(n int) int) string {
	switch choose(100) {
	case 0:
		return ""
	case 1:
		return "1234567890123456"
	case 2:
		return "49x"
	case 3:
		return "-"
	}
	b := make([]byte, 1+choose(api.MaxDigits))
	for i := range b {
		b[i] = byte('0' + choose(10))
	}
	return string(b)
}
