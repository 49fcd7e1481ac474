package bands

import (
	"slices"

	"billing/api"
	"billing/names"
)

const (
	allDays    = 1<<8 - 1 // every bit that Slot.Days may have
	dayMinutes = api.Day / minute
)

// Check validates a list of bands.
func Check(bands []api.Band) api.Errno {
	if len(bands) == 0 {
		return api.ErrInvalid
	}
	if len(bands) > api.MaxList {
		return api.ErrTooLong
	}
	for i, b := range bands {
		if !names.Valid(b.Name) {
			return api.ErrInvalid
		}
		if slices.ContainsFunc(bands[:i], func(earlier api.Band) bool { return earlier.Name == b.Name }) {
			return api.ErrExists
		}
		if err := checkSlots(b.Slots, i == len(bands)-1); err != api.OK {
			return err
		}
	}
	return api.OK
}

// checkSlots validates the slots of a band, which may be the last one.
func checkSlots(slots []api.Slot, last bool) api.Errno {
	if last != (len(slots) == 0) {
		return api.ErrInvalid
	}
	if len(slots) > api.MaxList {
		return api.ErrTooLong
	}
	for _, s := range slots {
		if s.Days < 1 || s.Days > allDays || s.From < 0 || s.From >= s.To || s.To > dayMinutes {
			return api.ErrRange
		}
	}
	return api.OK
}
