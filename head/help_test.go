package head_test

import (
	"bytes"
	"math"
	"slices"
	"strconv"
	"strings"
	"testing"

	"glossator/api"
	"glossator/head"
)

const maxUint64 = math.MaxUint64

// noMajors are numbers that are no major kind, some of them in their lowest
// bits alone.
var noMajors = []int{-1, -2, -7, -8, -9, -256, 8, 9, 10, 15, 16, 31, 32, 39, 255, 256, 263, 1 << 32, 1<<32 + 7, math.MinInt, math.MinInt + 7, math.MaxInt}

// sizes are all that there are, the least first.
var sizes = []int{0, 1, 2, 4, 8}

// noSizes are numbers that are no size.
var noSizes = []int{-1, -2, -3, -4, -8, -64, 3, 5, 6, 7, 9, 10, 16, 24, 25, 27, 31, 32, 64, 256, 1 << 32, 1<<32 + 1, 1<<32 + 8, math.MinInt, math.MinInt + 1, math.MinInt + 8, math.MaxInt}

// edges are the numbers at and beside each place where a head gets longer, or
// where the major 7 changes.
var edges = []uint64{
	0, 1, 2, 10, 18, 19, 20, 21, 22, 23, 24, 25, 26, 27, 28, 30, 31, 32, 33, 100, 127, 128, 254, 255, 256, 257, 500, 1000,
	1<<15 - 1, 1 << 15, 1<<16 - 2, 1<<16 - 1, 1 << 16, 1<<16 + 1, 1<<24 - 1, 1 << 24,
	1<<31 - 1, 1 << 31, 1<<32 - 2, 1<<32 - 1, 1 << 32, 1<<32 + 1, 1<<40 - 1, 1 << 48, 0x0102030405060708,
	1<<63 - 1, 1 << 63, maxUint64 - 1, maxUint64,
}

// tails are what may stand behind a head, or behind its first byte.
var tails = []string{
	"", "\x00", "\xFF", "\x17", "\x18", "\x1F", "\x20", "\xF8\x18", "\x00\x00", "\x20\x00", "\xFF\xFF\xFF", "\x01\x02\x03\x04", "\x1F\xFF\xFF\xFF",
	"\x20\x21\x22\x23\x24\x25\x26", "\x01\x02\x03\x04\x05\x06\x07\x08", "\x81\x82\x83\x84\x85\x86\x87\x88\x89",
	strings.Repeat("\x00", 8), strings.Repeat("\xFF", 8), strings.Repeat("\x00", 20), strings.Repeat("\xFF", 20), strings.Repeat("\x5A", 5000),
}

// chance tells numbers that look like chance but are the same in each run.
type chance uint64

func (c *chance) word() uint64 {
	*c ^= *c << 13
	*c ^= *c >> 7
	*c ^= *c << 17
	return uint64(*c) * 0x2545F4914F6CDD1D
}

func (c *chance) below(n int) int {
	return int(c.word() >> 1 % uint64(n))
}

// number is one of any length, or one beside an edge.
func (c *chance) number() uint64 {
	if c.below(3) == 0 {
		return edges[c.below(len(edges))] + uint64(c.below(5)) - 2
	}
	return c.word() >> c.below(64)
}

func (c *chance) bytes(n int) []byte {
	out := make([]byte, n)
	for i := range out {
		out[i] = byte(c.word() >> 32)
	}
	return out
}

// signs writes n as so many signs 0 and 1.
func signs(n uint64, count int) string {
	if count == 0 {
		return ""
	}
	s := strconv.FormatUint(n, 2)
	return strings.Repeat("0", count-len(s)) + s
}

// counted is what signs 0 and 1 count.
func counted(s string) uint64 {
	n, err := strconv.ParseUint(s, 2, 64)
	if err != nil {
		panic(err)
	}
	return n
}

// filled are the bytes for which signs 0 and 1 stand.
func filled(s string) []byte {
	var out []byte
	for ; s != ""; s = s[8:] {
		out = append(out, byte(counted(s[:8])))
	}
	return out
}

// wantWide is what Wide is to tell, by the document's words.
func wantWide(major int, n uint64, size int) ([]byte, api.Errno) {
	if major < 0 || major > 7 || major == 7 && (24 <= n && n <= 31 || n > 255) {
		return nil, api.ErrArg
	}
	info := n
	switch size {
	case 0:
		if n > 23 {
			return nil, api.ErrArg
		}
	case 1:
		if n > 255 || major == 7 && n < 32 {
			return nil, api.ErrArg
		}
		info = 24
	case 2:
		if n > 65535 || major == 7 {
			return nil, api.ErrArg
		}
		info = 25
	case 4:
		if n > 4294967295 || major == 7 {
			return nil, api.ErrArg
		}
		info = 26
	case 8:
		if major == 7 {
			return nil, api.ErrArg
		}
		info = 27
	default:
		return nil, api.ErrArg
	}
	if size == 0 {
		return filled(signs(uint64(major), 3) + signs(info, 5)), api.OK
	}
	return filled(signs(uint64(major), 3) + signs(info, 5) + signs(n, 8*size)), api.OK
}

// wantPut is what Put is to tell: what the least size has.
func wantPut(major int, n uint64) ([]byte, api.Errno) {
	for _, size := range sizes {
		if b, e := wantWide(major, n, size); e == api.OK {
			return b, api.OK
		}
	}
	return nil, api.ErrArg
}

// got is what Get tells.
type got struct {
	major, info int
	n           uint64
	length      int
	e           api.Errno
}

func short(length int) got { return got{length: length, e: api.ErrShort} }
func wrong(place int) got  { return got{length: place, e: api.ErrForm} }

// wantGet is what Get is to tell, by the document's words.
func wantGet(b []byte) got {
	if len(b) == 0 {
		return short(0)
	}
	first := signs(uint64(b[0]), 8)
	major, info := int(counted(first[:3])), int(counted(first[3:]))
	length := 1
	switch info {
	case 24, 25, 26, 27:
		length = map[int]int{24: 2, 25: 3, 26: 5, 27: 9}[info]
	case 28, 29, 30:
		return wrong(0)
	case 31:
		if major == 0 || major == 1 || major == 6 {
			return wrong(0)
		}
		return got{major, info, 0, 1, api.OK}
	default:
		return got{major, info, uint64(info), 1, api.OK}
	}
	if major == 7 && info == 24 && len(b) > 1 && b[1] < 32 {
		return wrong(1)
	}
	if len(b) < length {
		return short(len(b))
	}
	number := ""
	for _, x := range b[1:length] {
		number += signs(uint64(x), 8)
	}
	return got{major, info, counted(number), length, api.OK}
}

func checkPut(t *testing.T, major int, n uint64, want []byte, wantE api.Errno) {
	t.Helper()
	if b, e := head.Put(major, n); !bytes.Equal(b, want) || e != wantE {
		t.Fatalf("Put(%d, %d): %X, %v, want %X, %v", major, n, b, e, want, wantE)
	}
}

func checkWide(t *testing.T, major int, n uint64, size int, want []byte, wantE api.Errno) {
	t.Helper()
	if b, e := head.Wide(major, n, size); !bytes.Equal(b, want) || e != wantE {
		t.Fatalf("Wide(%d, %d, %d): %X, %v, want %X, %v", major, n, size, b, e, want, wantE)
	}
}

// checkPutAsWanted holds Put against the document's words.
func checkPutAsWanted(t *testing.T, major int, n uint64) {
	t.Helper()
	want, wantE := wantPut(major, n)
	checkPut(t, major, n, want, wantE)
}

// checkWideAsWanted holds Wide against the document's words.
func checkWideAsWanted(t *testing.T, major int, n uint64, size int) {
	t.Helper()
	want, wantE := wantWide(major, n, size)
	checkWide(t, major, n, size, want, wantE)
}

// checkGet asks Get for b, which other bytes stand behind in memory.
func checkGet(t *testing.T, b string, want got) {
	t.Helper()
	room := []byte(b + "\x20\x20\x20\x20\x20\x20\x20\x20\x20\x20")
	before := slices.Clone(room)
	var x got
	x.major, x.info, x.n, x.length, x.e = head.Get(room[:len(b)])
	if x != want {
		t.Fatalf("Get(% .20X), %d bytes: %+v, want %+v", b, len(b), x, want)
	}
	if !bytes.Equal(room, before) {
		t.Fatalf("Get(% .20X), %d bytes, changed them", b, len(b))
	}
}

// checkGetAsWanted holds Get against the document's words.
func checkGetAsWanted(t *testing.T, b string) {
	t.Helper()
	checkGet(t, b, wantGet([]byte(b)))
}
