package head_test

import (
	"strings"
	"testing"

	"glossator/api"
	"glossator/head"
)

// TestGetExamples: those of the document and of RFC 8949, one of each way to
// err among them.
func TestGetExamples(t *testing.T) {
	for _, x := range []struct {
		b    string
		want got
	}{
		{"\xF8\x18", wrong(1)},
		{"\x00", got{0, 0, 0, 1, api.OK}},
		{"\x17", got{0, 23, 23, 1, api.OK}},
		{"\x18\x18", got{0, 24, 24, 2, api.OK}},
		{"\x18\x00", got{0, 24, 0, 2, api.OK}}, // as Wide has it
		{"\x19\x01\xF4", got{0, 25, 500, 3, api.OK}},
		{"\x1A\x00\x0F\x42\x40", got{0, 26, 1000000, 5, api.OK}},
		{"\x1B\x01\x02\x03\x04\x05\x06\x07\x08", got{0, 27, 0x0102030405060708, 9, api.OK}},
		{"\x3B\xFF\xFF\xFF\xFF\xFF\xFF\xFF\xFF", got{1, 27, maxUint64, 9, api.OK}},
		{"\x44\x01\x02", got{2, 4, 4, 1, api.OK}}, // what the head is of is not asked for
		{"\x65", got{3, 5, 5, 1, api.OK}},
		{"\x98\x19\x01", got{4, 24, 25, 2, api.OK}},
		{"\xA2\x01", got{5, 2, 2, 1, api.OK}},
		{"\xD9\xD9\xF7\x00", got{6, 25, 55799, 3, api.OK}},
		{"\xF4", got{7, 20, 20, 1, api.OK}},
		{"\xF8\x20", got{7, 24, 32, 2, api.OK}},
		{"\xF8\xFF", got{7, 24, 255, 2, api.OK}},
		{"\xF9\x3C\x00", got{7, 25, 0x3C00, 3, api.OK}}, // floats are numbers here
		{"\xFA\x00\x00\x00\x01", got{7, 26, 1, 5, api.OK}},
		{"\xFB\x3F\xF1\x99\x99\x99\x99\x99\x9A", got{7, 27, 0x3FF199999999999A, 9, api.OK}},
		{"\x5F", got{2, 31, 0, 1, api.OK}},
		{"\x7F\x61", got{3, 31, 0, 1, api.OK}},
		{"\x9F\xFF", got{4, 31, 0, 1, api.OK}},
		{"\xBF\x00", got{5, 31, 0, 1, api.OK}},
		{"\xFF", got{7, 31, 0, 1, api.OK}},
		{"\x1F", wrong(0)},
		{"\x3F\x00", wrong(0)},
		{"\xDF\xFF", wrong(0)},
		{"\x1C", wrong(0)},
		{"\xFE\x00\x00", wrong(0)},
		{"\x18", short(1)},
		{"\x19\x01", short(2)},
		{"\x1A\x00\x0F\x42", short(4)},
		{"\x1B\x01\x02\x03\x04\x05\x06\x07", short(8)},
		{"\xF8", short(1)},
		{"\xF9\x00", short(2)}, // that byte is no number below 32
	} {
		checkGet(t, x.b, x.want)
		checkGetAsWanted(t, x.b)
	}
}

func TestGetNoBytes(t *testing.T) {
	for _, b := range [][]byte{nil, {}, []byte("\x18\x18")[:0], []byte("\x1C")[1:]} {
		if major, info, n, length, e := head.Get(b); major != 0 || info != 0 || n != 0 || length != 0 || e != api.ErrShort {
			t.Errorf("Get of no bytes: %d, %d, %d, %d, %v", major, info, n, length, e)
		}
	}
}

// TestGetEachFirstByte: with nothing behind it, with too few bytes, with just
// enough, and with more, of all kinds.
func TestGetEachFirstByte(t *testing.T) {
	for first := range 256 {
		for _, tail := range tails {
			for length := range min(len(tail), 12) + 1 {
				checkGetAsWanted(t, string([]byte{byte(first)})+tail[:length])
			}
			checkGetAsWanted(t, string([]byte{byte(first)})+tail)
		}
	}
}

// TestGetEachLength: which number of bytes is needed, by info, and which error
// is told of fewer.
func TestGetEachLength(t *testing.T) {
	for major := range 8 {
		for info := range 32 {
			first := string([]byte{byte(major*32 + info)})
			needed := 1
			if info >= 24 && info <= 27 {
				needed = 1 + 1<<(info-24)
			}
			isOpen := info == 31 && major != 0 && major != 1 && major != 6
			for length := 1; length < 13; length++ {
				b := first + strings.Repeat("\x40", length-1)
				switch {
				case info > 27 && !isOpen:
					checkGet(t, b, wrong(0))
				case isOpen:
					checkGet(t, b, got{major, 31, 0, 1, api.OK})
				case length < needed:
					checkGet(t, b, short(length))
				case info < 24:
					checkGet(t, b, got{major, info, uint64(info), 1, api.OK})
				default:
					checkGet(t, b, got{major, info, 0x4040404040404040 >> (72 - 8*needed), needed, api.OK})
				}
			}
		}
	}
}

// TestGetNoneOfEachMajor: infos that are none, and those that just some majors
// have.
func TestGetNoneOfEachMajor(t *testing.T) {
	for major := range 8 {
		for _, tail := range tails {
			for info := 28; info <= 30; info++ {
				checkGet(t, string([]byte{byte(major*32 + info)})+tail, wrong(0))
			}
			b := string([]byte{byte(major*32 + 31)}) + tail
			switch major {
			case 2, 3, 4, 5, 7:
				checkGet(t, b, got{major, 31, 0, 1, api.OK})
			default:
				checkGet(t, b, wrong(0))
			}
		}
	}
}

// TestGetF8: it stands ahead of no byte below 32, which other heads do.
func TestGetF8(t *testing.T) {
	for second := range 256 {
		for _, tail := range tails {
			behind := string([]byte{byte(second)}) + tail
			if second < 32 {
				checkGet(t, "\xF8"+behind, wrong(1))
			} else {
				checkGet(t, "\xF8"+behind, got{7, 24, uint64(second), 2, api.OK})
			}
			for major := range 7 {
				checkGet(t, string([]byte{byte(major*32 + 24)})+behind, got{major, 24, uint64(second), 2, api.OK})
			}
			checkGetAsWanted(t, "\xF9"+behind)
			checkGetAsWanted(t, "\xFA"+behind)
			checkGetAsWanted(t, "\xFB"+behind)
		}
	}
}

func TestGetOfTwoBytes(t *testing.T) {
	for first := range 256 {
		for second := range 256 {
			checkGetAsWanted(t, string([]byte{byte(first), byte(second)}))
		}
	}
}

func TestGetMany(t *testing.T) {
	c := chance(103)
	for range 300000 {
		checkGetAsWanted(t, string(c.bytes(c.below(13))))
	}
}
