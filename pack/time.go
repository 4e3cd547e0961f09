package pack

import (
	"glossator/api"
)

const (
	timeType    = 255
	allNanos    = 1000000000 // those of a second
	secondsBits = 34         // of the eight bytes; above them stand the nanoseconds
)

// Time tells the seconds and nanoseconds of v, if it is a time.
func Time(v api.Value) (int64, uint32, bool) {
	if v.K != api.KExt || v.N != timeType || v.Neg || len(v.L) > 0 {
		return 0, 0, false
	}
	seconds, nanos := uint64(0), uint64(0)
	switch len(v.S) {
	case 4:
		seconds = number(v.S)
	case 8:
		n := number(v.S)
		seconds, nanos = n&(1<<secondsBits-1), n>>secondsBits
	case 12:
		seconds, nanos = number(v.S[4:]), number(v.S[:4])
	default:
		return 0, 0, false
	}
	if nanos >= allNanos {
		return 0, 0, false
	}
	return int64(seconds), uint32(nanos), true
}

// FromTime tells the time of the fewest bytes.
func FromTime(seconds int64, nanos uint32) (api.Value, api.Errno) {
	if nanos >= allNanos {
		return api.Value{}, api.ErrArg
	}
	var w writer
	switch {
	case seconds>>secondsBits != 0: // below 0, too
		w.low(uint64(nanos), 4)
		w.low(uint64(seconds), 8)
	case seconds>>32 != 0, nanos > 0:
		w.low(uint64(nanos)<<secondsBits|uint64(seconds), 8)
	default:
		w.low(uint64(seconds), 4)
	}
	return api.Value{K: api.KExt, N: timeType, S: string(w.out)}, api.OK
}
