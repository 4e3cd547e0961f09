package nat

import (
	"strconv"
	"strings"

	"glossator/api"
)

const limbBytes = limbBits / 8

// So many decimal digits fit into one wide limb.
const (
	chunkDigits = 19
	chunkSize   = 10_000_000_000_000_000_000
)

// Bytes tells the bytes of a, the highest first.
func Bytes(a []uint32) []byte {
	n := (Bits(a) + 7) / 8
	out := make([]byte, n)
	for i := range out {
		place := n - 1 - i
		out[i] = byte(a[place/limbBytes] >> (8 * (place % limbBytes)))
	}
	return out
}

// FromBytes tells the number of the bytes b, the highest first.
func FromBytes(b []byte) ([]uint32, api.Errno) {
	for len(b) > 0 && b[0] == 0 {
		b = b[1:]
	}
	if len(b) > api.MaxLimbs*limbBytes {
		return nil, api.ErrLong
	}
	out := make([]uint32, (len(b)+limbBytes-1)/limbBytes)
	for i, x := range b {
		place := len(b) - 1 - i
		out[place/limbBytes] |= uint32(x) << (8 * (place % limbBytes))
	}
	return out, api.OK
}

// Digits tells the decimal digits of a.
func Digits(a []uint32) (string, api.Errno) {
	if tooLong(a) {
		return "", api.ErrLong
	}
	chunks := decimalChunks(widen(trim(a)))
	var out strings.Builder
	for i := len(chunks) - 1; i >= 0; i-- {
		digits := strconv.FormatUint(chunks[i], 10)
		if i < len(chunks)-1 {
			out.WriteString(strings.Repeat("0", chunkDigits-len(digits)))
		}
		out.WriteString(digits)
	}
	return out.String(), api.OK
}

// decimalChunks cuts a into chunks of decimal digits, the lowest first; one
// chunk at least. It overwrites a.
func decimalChunks(a []uint64) []uint64 {
	chunks := []uint64{divideBy(a, chunkSize)}
	for a = trim(a); len(a) > 0; a = trim(a) {
		chunks = append(chunks, divideBy(a, chunkSize))
	}
	return chunks
}

// FromDigits tells the number of the decimal digits s.
func FromDigits(s string) ([]uint32, api.Errno) {
	if len(s) > api.MaxDigits {
		return nil, api.ErrLong
	}
	if !areDigits(s) {
		return nil, api.ErrForm
	}
	var number []uint64
	for len(s) > 0 {
		n := min(len(s), chunkDigits)
		scale, chunk := uint64(1), uint64(0)
		for i := range n {
			scale *= 10
			chunk = chunk*10 + uint64(s[i]-'0')
		}
		number = timesPlus(number, scale, chunk)
		s = s[n:]
	}
	return narrow(number), api.OK
}

// areDigits tells whether s is one decimal digit or more, and nothing else.
func areDigits(s string) bool {
	for i := range len(s) {
		if s[i] < '0' || s[i] > '9' {
			return false
		}
	}
	return len(s) > 0
}
