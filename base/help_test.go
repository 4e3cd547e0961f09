package base_test

import (
	"bytes"
	"encoding/base32"
	"encoding/base64"
	"encoding/hex"
	"math"
	"strconv"
	"strings"
	"testing"

	"glossator/api"
	"glossator/base"
)

// kinds are all that there are.
var kinds = []int{base.Hex, base.B64, base.U64, base.B32}

// noKinds are numbers that are no kind.
var noKinds = []int{-1, -2, -3, -4, 4, 5, 64, 256, 1 << 32, 1<<32 + 1, math.MinInt, math.MaxInt}

// signs are the letters of each kind, in the order of what they count.
var signs = [...]string{
	base.Hex: "0123456789abcdef",
	base.B64: "ABCDEFGHIJKLMNOPQRSTUVWXYZabcdefghijklmnopqrstuvwxyz0123456789+/",
	base.U64: "ABCDEFGHIJKLMNOPQRSTUVWXYZabcdefghijklmnopqrstuvwxyz0123456789-_",
	base.B32: "ABCDEFGHIJKLMNOPQRSTUVWXYZ234567",
}

// letterBits are the bits of a letter of each kind.
var letterBits = [...]int{base.Hex: 4, base.B64: 6, base.U64: 6, base.B32: 5}

// groups are what letters of each kind are filled up to a multiple of.
var groups = [...]int{base.Hex: 1, base.B64: 4, base.U64: 1, base.B32: 8}

// byLibrary is what the library encodes.
func byLibrary(kind int, b []byte) string {
	switch kind {
	case base.Hex:
		return hex.EncodeToString(b)
	case base.B64:
		return base64.StdEncoding.EncodeToString(b)
	case base.U64:
		return base64.RawURLEncoding.EncodeToString(b)
	}
	return base32.StdEncoding.EncodeToString(b)
}

// lettersOf tells how many letters stand for n bytes, counted one by one.
func lettersOf(kind, n int) int {
	letters := 0
	for letters*letterBits[kind] < 8*n {
		letters++
	}
	return letters
}

// bytesOf tells how many bytes have just n letters, if any have.
func bytesOf(kind, n int) (int, bool) {
	for size := range n + 1 {
		if lettersOf(kind, size) == n {
			return size, true
		}
	}
	return 0, false
}

// bitsOf writes what letters stand for as signs 0 and 1.
func bitsOf(kind int, letters string) string {
	var out strings.Builder
	for i := range len(letters) {
		count := strconv.FormatInt(int64(strings.IndexByte(signs[kind], letters[i])), 2)
		out.WriteString(strings.Repeat("0", letterBits[kind]-len(count)) + count)
	}
	return out.String()
}

// wantDecode is what Decode is to tell, by the document's words.
func wantDecode(kind int, s string) ([]byte, int, api.Errno) {
	n := len(s)
	if at := strings.IndexByte(s, '='); at >= 0 && groups[kind] > 1 {
		n = at
	}
	for i := range n {
		if strings.IndexByte(signs[kind], s[i]) < 0 {
			return nil, i, api.ErrForm
		}
	}
	size, ok := bytesOf(kind, n)
	if !ok {
		return nil, n, api.ErrForm
	}
	bits := bitsOf(kind, s[:n])
	if strings.Contains(bits[8*size:], "1") {
		return nil, n - 1, api.ErrForm
	}
	want := s[:n]
	for len(want)%groups[kind] != 0 {
		want += "="
	}
	if s != want {
		return nil, n, api.ErrForm
	}
	var out []byte
	for i := range size {
		b, err := strconv.ParseUint(bits[8*i:8*i+8], 2, 8)
		if err != nil {
			panic(err)
		}
		out = append(out, byte(b))
	}
	return out, len(s), api.OK
}

// checkDecode asks Decode for just what is wanted.
func checkDecode(t *testing.T, kind int, s string, want []byte, at int, e api.Errno) {
	t.Helper()
	got, gotAt, gotE := base.Decode(kind, s)
	if !bytes.Equal(got, want) || gotAt != at || gotE != e {
		t.Fatalf("Decode of kind %d, %q: %X, %d, %v, want %X, %d, %v", kind, s, got, gotAt, gotE, want, at, e)
	}
}

// checkAsWanted asks Decode for what the document's words tell.
func checkAsWanted(t *testing.T, kind int, s string) {
	t.Helper()
	want, at, e := wantDecode(kind, s)
	checkDecode(t, kind, s, want, at, e)
}

// encode tells the letters of bytes, which can't be refused.
func encode(t *testing.T, kind int, b []byte) string {
	t.Helper()
	s, e := base.Encode(kind, b)
	if e != api.OK {
		t.Fatalf("Encode of kind %d, %X: %v", kind, b, e)
	}
	return s
}

// chance tells numbers that look like chance but are the same in each run.
type chance uint64

func (c *chance) next(n int) int {
	*c ^= *c << 13
	*c ^= *c >> 7
	*c ^= *c << 17
	return int((uint64(*c) >> 11) % uint64(n))
}

// bytes tells n of them; all of them 0 or FF now and then.
func (c *chance) bytes(n int) []byte {
	out := make([]byte, n)
	mode := c.next(6)
	for i := range out {
		switch mode {
		case 0:
		case 1:
			out[i] = 0xFF
		default:
			out[i] = byte(c.next(256))
		}
	}
	return out
}
