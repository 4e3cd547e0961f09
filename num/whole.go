package num

import (
	"strings"

	"glossator/api"
	"glossator/nat"
)

const (
	maxWholeDigits = 1200
	intBytes       = 8 // of a KInt's N; a KBig has more
)

// The numbers of this file stay far below nat's bounds (some 2^9 bytes, where it
// has 2^14, and 1200 digits, where it reads 2^12), and nothing is taken from 0:
// nat refuses nothing here.

// readWhole tells the value of a whole number that is not -0.
func readWhole(s string) (api.Value, api.Errno) {
	digits, neg := strings.CutPrefix(s, "-")
	if len(digits) > maxWholeDigits {
		return api.Value{}, api.ErrLimit
	}
	n, _ := nat.FromDigits(digits)
	if neg {
		n, _ = nat.Sub(n, one())
	}
	b := nat.Bytes(n)
	if len(b) > intBytes {
		return api.Value{K: api.KBig, Neg: neg, S: string(b)}, api.OK
	}
	return api.Value{K: api.KInt, Neg: neg, N: short(b)}, api.OK
}

// writeWhole undoes readWhole.
func writeWhole(v api.Value) string {
	n := long(v.N)
	if v.K == api.KBig {
		n, _ = nat.FromBytes([]byte(v.S))
	}
	sign := ""
	if v.Neg {
		sign = "-"
		n, _ = nat.Add(n, one())
	}
	digits, _ := nat.Digits(n)
	return sign + digits
}

// one is what the amount of a number below 0 has more than its N or S.
func one() []uint32 {
	return []uint32{1}
}

// short tells the number of the bytes b, which are few, the highest first.
func short(b []byte) uint64 {
	var n uint64
	for _, x := range b {
		n = n<<8 | uint64(x)
	}
	return n
}

// long tells the limbs of n.
func long(n uint64) []uint32 {
	return []uint32{uint32(n), uint32(n >> 32)}
}
