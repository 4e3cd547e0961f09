package pack_test

import (
	"slices"
	"strings"
	"testing"

	"glossator/api"
)

// TestSizePlace: the byte at the place l.Size is not looked at, nor what stands
// behind it; of that place there is no other error.
func TestSizePlace(t *testing.T) {
	for _, x := range []struct {
		letters string
		size    int
		at      int
		e       api.Errno
	}{
		{"00", 0, 0, api.ErrLimit}, {"C1", 0, 0, api.ErrLimit}, {"90", 0, 0, api.ErrLimit}, {"", 0, 0, api.ErrShort},
		{"00 00", 1, 1, api.ErrLimit}, {"00 C1", 1, 1, api.ErrLimit}, {"90 C1 00", 1, 1, api.ErrLimit}, {"A1 61 00", 2, 2, api.ErrLimit}, {"C7 00 05 C1", 3, 3, api.ErrLimit}, // behind the item
		{"00 00 00", 2, 1, api.ErrForm}, {"00 00", 2, 1, api.ErrForm},
		{"CC", 1, 1, api.ErrShort}, {"CC 18", 1, 1, api.ErrLimit}, {"CF 00 00", 2, 2, api.ErrLimit}, {"CF 00", 2, 2, api.ErrShort}, {"CB 00", 1, 1, api.ErrLimit}, {"CA 00 00 00 00", 4, 4, api.ErrLimit}, {"D3 00 00 00 00 00 00 00 00", 8, 8, api.ErrLimit}, {"D0 00", 1, 1, api.ErrLimit},
		{"C4", 1, 1, api.ErrShort}, {"C4 05", 1, 1, api.ErrLimit}, {"C4 05", 2, 0, api.ErrLimit}, {"C4 00", 2, 2, api.OK}, {"C6 00 00", 2, 2, api.ErrLimit}, {"C6 FF", 2, 2, api.ErrShort}, {"D9 00", 1, 1, api.ErrLimit}, {"DB 00 00 00 00", 4, 4, api.ErrLimit},
		{"C7 05", 1, 1, api.ErrLimit}, {"C7 05", 2, 0, api.ErrLimit}, {"C7", 2, 1, api.ErrShort}, {"C7 00", 2, 0, api.ErrLimit}, {"C7 00", 3, 2, api.ErrShort}, {"C7 00 05", 3, 3, api.OK}, {"C9 00 00 00", 4, 4, api.ErrShort}, {"C9 00 00 00 00", 4, 4, api.ErrLimit},
		{"D4", 1, 0, api.ErrLimit}, {"D4", 2, 0, api.ErrLimit}, {"D4", 3, 1, api.ErrShort}, {"D4 05", 3, 2, api.ErrShort}, {"D4 05 61", 3, 3, api.OK}, {"D8", 17, 0, api.ErrLimit}, {"D8", 18, 1, api.ErrShort}, {"91 D5 05 61", 4, 1, api.ErrLimit}, {"91 D5 05 61", 5, 4, api.ErrShort},
		{"92 00 C1", 3, 2, api.ErrForm}, {"91 C1 00", 1, 0, api.ErrLimit}, {"91 C1", 2, 1, api.ErrForm}, {"92 91 C1 C1", 3, 2, api.ErrForm}, {"92 91 C1 C1", 2, 0, api.ErrLimit}, {"92 C0 91 C1", 3, 2, api.ErrLimit}, {"92 90 C1", 3, 2, api.ErrForm}, {"92 90 91 C1", 3, 2, api.ErrLimit},
		{"92 CC 05 C1", 3, 3, api.ErrLimit}, {"92 CC 05", 3, 3, api.ErrShort}, {"92 CC 05 C1", 4, 3, api.ErrForm}, {"81 CC 05 C1", 3, 3, api.ErrLimit}, {"92 A1 61 C1", 3, 3, api.ErrLimit}, {"92 C4 00 C1", 3, 3, api.ErrLimit}, {"92 CC 05 91 C1", 4, 3, api.ErrLimit},
		{"92 90 92 00 00", 3, 2, api.ErrLimit}, // the inner list would end behind it
		{"92 90 91 00", 3, 2, api.ErrLimit}, {"92 90 91", 3, 2, api.ErrLimit}, {"92 90 90 00", 3, 3, api.ErrLimit}, {"92 92 00 00", 3, 1, api.ErrLimit}, {"92 92 00 00 00", 5, 5, api.OK},
		{"92 92 00", 3, 1, api.ErrLimit}, {"92 92 00", 4, 3, api.ErrShort}, {"92 90", 3, 2, api.ErrShort}, {"81 81 00", 3, 1, api.ErrLimit}, {"81 81 00", 4, 3, api.ErrShort},
		{"DC", 1, 1, api.ErrShort}, {"DC 00 00", 2, 2, api.ErrLimit}, {"DC 00 00", 3, 3, api.OK}, {"DE 00 01", 3, 0, api.ErrLimit}, {"DE 00 01", 4, 0, api.ErrLimit}, {"DE 00 01", 5, 3, api.ErrShort}, {"DF FF FF FF FF", 4, 4, api.ErrLimit}, {"DF FF FF FF FF", 5, 0, api.ErrLimit},
	} {
		b := bytesOf(t, x.letters)
		checkAsWanted(t, b, size(x.size))
		if x.e == api.OK {
			v, _, _ := wantDecode(b, most)
			checkTaken(t, b, size(x.size), v)
			continue
		}
		checkRefused(t, b, size(x.size), x.at, x.e)
		if x.e != api.ErrLimit || x.size > len(b) {
			continue
		}
		for first := range 256 { // whatever stands there
			checkRefused(t, append(slices.Clone(b[:x.size]), byte(first), 0xC1, 0x00), size(x.size), x.at, x.e)
		}
	}
}

// heads are first bytes with a length or a count behind them, of so many bytes.
var heads = []struct {
	first       byte
	width, each int    // each: how many bytes a part has at least
	ahead       string // of the parts: the type
	part        string
}{
	{0xC4, 1, 1, "", "\xFF"}, {0xC5, 2, 1, "", "\xC1"}, {0xC6, 4, 1, "", "\x00"},
	{0xD9, 1, 1, "", "a"}, {0xDA, 2, 1, "", "a"}, {0xDB, 4, 1, "", "a"},
	{0xC7, 1, 1, "\x05", "\xC1"}, {0xC8, 2, 1, "\xFF", "\xFF"}, {0xC9, 4, 1, "\x00", "a"},
	{0xDC, 2, 1, "", "\xC0"}, {0xDD, 4, 1, "", "\x01"}, {0xDE, 2, 2, "", "\xC0\xC0"}, {0xDF, 4, 2, "", "\x01\x02"},
}

// fewHeads are first bytes that tell by themselves that what stands behind them
// has n parts.
func fewHeads(n int) map[string]string {
	out := map[string]string{}
	if n < 32 {
		out[one(0xA0+byte(n))] = strings.Repeat("a", n)
	}
	if n < 16 {
		out[one(0x90+byte(n))] = strings.Repeat("\xC0", n)
		out[one(0x80+byte(n))] = strings.Repeat("\xC0", 2*n)
	}
	for i := range 5 {
		if n == 1<<i {
			out[one(0xD4+byte(i))] = "\x05" + strings.Repeat("\xC1", n)
		}
	}
	return out
}

// checkEnds asks for an item, told in its head and what stands behind, at each
// place where l.Size is near its end: what stands behind the head counts for
// nothing, if it is too long.
func checkEnds(t *testing.T, head, behind string) {
	t.Helper()
	for _, ahead := range []string{"", "\x91", "\x92\x90", "\x81\x00", "\x92\xA1a"} {
		b := []byte(ahead + head + behind)
		v, _, e := wantDecode(b, most)
		if e != api.OK {
			t.Fatalf("% .20X is no item: %v", b, e)
		}
		checkTaken(t, b, size(len(b)), v)
		checkTaken(t, b, size(len(b)+1), v)
		for _, less := range []int{1, 2, len(behind) / 2, len(behind) - 1, len(behind)} {
			if less < 1 || less > len(behind) {
				continue
			}
			checkAsWanted(t, b, size(len(b)-less))
			if ahead == "\x92\x90" && less > 1 {
				continue // the list ahead ends behind the place, too
			}
			checkRefused(t, b, size(len(b)-less), len(ahead), api.ErrLimit)
			checkRefused(t, append([]byte(ahead+head), 0xC1), size(len(b)-less), len(ahead), api.ErrLimit)
			checkRefused(t, append([]byte(ahead+head), behind[:len(behind)-less]...), size(len(b)-less), len(ahead), api.ErrLimit)
			checkRefused(t, []byte(ahead+head), size(len(b)-less), len(ahead), api.ErrLimit)
		}
		if behind != "" {
			checkRefused(t, b[:len(b)-1], size(len(b)), len(b)-1, api.ErrShort)
		}
	}
}

// TestLengthAtSize: what ends just at the place l.Size, and behind it.
func TestLengthAtSize(t *testing.T) {
	for n := range 33 {
		for head, behind := range fewHeads(n) {
			checkEnds(t, head, behind)
		}
	}
	for _, x := range heads {
		for _, n := range []int{0, 1, 2, 3, 15, 16, 17, 31, 32, 254, 255, 256, 1000} {
			if x.width > 1 || n < 256 {
				checkEnds(t, one(x.first)+inBytes(uint64(n), x.width), x.ahead+strings.Repeat(x.part, n))
			}
		}
	}
}

// TestLengthFarBeyond: no length is so great that it seems small.
func TestLengthFarBeyond(t *testing.T) {
	for _, x := range heads {
		for _, n := range []uint64{0x40, 0x7F, 0x80, 0xFF, 0x7FFF, 0x8000, 0xFFFE, 0xFFFF, 1 << 19, 1<<19 + 1, 1 << 20, 1<<20 + 1, 1<<31 - 1, 1 << 31, 1<<31 + 1, 1<<32 - 2, 1<<32 - 1} {
			if n>>(8*x.width) > 0 {
				continue
			}
			b := []byte(one(x.first) + inBytes(n, x.width))
			need := int(n)*x.each + len(x.ahead)
			for _, l := range []int{len(b), len(b) + 23, len(b) + need - 1, len(b) + need, api.MaxSize} {
				switch {
				case l > api.MaxSize:
				case need > l-len(b):
					checkRefused(t, b, size(l), 0, api.ErrLimit)
					checkRefused(t, append(slices.Clone(b), 0xC1, 0xFF), size(l), 0, api.ErrLimit)
					checkRefused(t, append([]byte("\x92\xC0"), b...), size(min(l+2, api.MaxSize)), 2, api.ErrLimit)
				default:
					checkRefused(t, b, size(l), len(b), api.ErrShort)
				}
			}
			// The head itself goes first.
			for cut := range b {
				if cut > 0 {
					checkRefused(t, b[:cut], size(9), cut, api.ErrShort)
				}
				checkRefused(t, b, size(cut), cut, api.ErrLimit)
			}
		}
	}
}

// TestLengthAtGreatestSize: items that end at the place MaxSize, and behind it.
func TestLengthAtGreatestSize(t *testing.T) {
	for _, x := range []struct {
		first byte
		ahead string
		v     func(s string) api.Value
	}{{0xC6, "", raw}, {0xDB, "", text}, {0xC9, "\x80", func(s string) api.Value { return ext(128, s) }}} {
		n := api.MaxSize - 5 - len(x.ahead)
		s := strings.Repeat("a", n)
		b := []byte(one(x.first) + inBytes(uint64(n), 4) + x.ahead + s)
		checkTaken(t, b, most, x.v(s))
		checkRefused(t, append(slices.Clone(b), 0xC1), most, api.MaxSize, api.ErrLimit)
		checkRefused(t, b[:len(b)-1], most, len(b)-1, api.ErrShort)
		b[4]++
		checkRefused(t, b, most, 0, api.ErrLimit)
		checkRefused(t, append(b, 'a'), most, 0, api.ErrLimit)
	}
}

// TestTextAtSize: a text that is wrong at each of its bytes, cut ahead of that
// byte, at it, and behind it, by the end of b and by l.Size.
func TestTextAtSize(t *testing.T) {
	for _, s := range []string{"abcd", "a\u00FCb", "\u20ACx", "x\u20AC", "\U0001F600", "\u00FC\u00FC"} {
		for _, head := range []string{one(0xA0 + byte(len(s))), "\xD9" + inBytes(uint64(len(s)), 1), "\xDA" + inBytes(uint64(len(s)), 2), "\xDB" + inBytes(uint64(len(s)), 4)} {
			for _, ahead := range []string{"", "\x92\x00", "\x81"} {
				checkWrongText(t, ahead, head, s)
			}
		}
	}
}

func checkWrongText(t *testing.T, ahead, head, s string) {
	t.Helper()
	start := len(ahead + head)
	for wrong := range len(s) {
		for _, other := range []byte{0xFF, 0x80, 0xC3, 0xE2, 0xF0, 'a'} {
			b := []byte(ahead + head + s)
			b[start+wrong] = other
			for cut := start; cut <= len(b); cut++ {
				for _, n := range []int{start, start + wrong, start + wrong + 1, len(b) - 1, len(b), len(b) + 1, api.MaxSize} {
					checkAsWanted(t, b[:cut], size(n))
					checkAsWanted(t, append(slices.Clone(b), 0xFF), size(n))
				}
			}
		}
		b := []byte(ahead + head + s)
		b[start+wrong] = 0xFF
		room := len(b)
		if ahead == "\x81" {
			room++ // for the key's value
		}
		checkRefused(t, b, size(room), start+wrong, api.ErrForm)
		checkRefused(t, b[:start+wrong+1], size(room), start+wrong, api.ErrForm)
		checkRefused(t, b[:start+wrong], size(room), start+wrong, api.ErrShort)
		for n := max(start, 3); n < len(b); n++ {
			checkRefused(t, b, size(n), len(ahead), api.ErrLimit)
			checkRefused(t, b[:start+wrong], size(n), len(ahead), api.ErrLimit)
		}
	}
}

// TestDepth: lists, maps and both at the depth, and one deeper; the first bytes
// of that one are told, ahead of all behind them.
func TestDepth(t *testing.T) {
	for _, x := range []struct{ begin, inner, end string }{
		{"\x91", "\x90", ""}, {"\x81\x00", "\x80", ""}, {"\x81", "\x80", "\x00"}, {"\x81\x91", "\x80", "\x00"}, {"\x91\x81\x00", "\x90", ""},
		{"\xDC\x00\x01", "\xDC\x00\x00", ""}, {"\xDD\x00\x00\x00\x01", "\xDD\x00\x00\x00\x00", ""}, {"\xDE\x00\x01\x00", "\xDE\x00\x00", ""}, {"\xDF\x00\x00\x00\x01", "\xDF\x00\x00\x00\x00", "\x00"},
	} {
		parts := 1
		if strings.Contains(x.begin, "\x91") && strings.Contains(x.begin, "\x81") {
			parts = 2
		}
		for _, n := range []int{0, 1, 2, 31, 32, 63, 64} {
			b := []byte(strings.Repeat(x.begin, n) + x.inner + strings.Repeat(x.end, n))
			deep := parts*n + 1
			for _, l := range []int{0, 1, 2, 3, 62, 63, 64} {
				checkAsWanted(t, b, depth(l))
				if deep <= l {
					v, _, _ := wantDecode(b, most)
					checkTaken(t, b, depth(l), v)
					continue
				}
				if parts == 2 && l%2 == 1 {
					continue // held against the document's words alone
				}
				at := l / parts * len(x.begin)
				length := headLength(b[at])
				checkRefused(t, b, depth(l), at, api.ErrLimit)
				// A form error and an end behind its first bytes come later.
				checkRefused(t, b[:at+length], depth(l), at, api.ErrLimit)
				checkRefused(t, append(slices.Clone(b[:at+length]), 0xC1), depth(l), at, api.ErrLimit)
				checkAsWanted(t, b, api.Limits{Depth: l, Size: at + length})
				// Within them they are ahead.
				for cut := at + 1; cut < at+length; cut++ {
					checkRefused(t, b[:cut], depth(l), cut, api.ErrShort)
					checkAsWanted(t, b, api.Limits{Depth: l, Size: cut})
				}
			}
		}
	}
	// What has none within it is no deeper than what it stands in.
	for _, v := range leaves() {
		checkTaken(t, []byte(wantEncode(v)), depth(0), v)
		checkTaken(t, []byte(wantEncode(within(64, v))), depth(64), within(64, v))
		checkTaken(t, []byte(wantEncode(pairs(v, v))), depth(1), pairs(v, v))
	}
}

// headLength is how many bytes there are up to where a list's or a map's count
// is known.
func headLength(first byte) int {
	switch first {
	case 0xDC, 0xDE:
		return 3
	case 0xDD, 0xDF:
		return 5
	}
	return 1
}

// TestCount: MaxNodes values are taken, and one more is not: of it the place of
// its first byte is told, when it is whole (of a list or a map its count).
func TestCount(t *testing.T) {
	for _, x := range []struct {
		last   string
		length int // how many of its bytes must be there for it to be told
	}{
		{"\xC0", 1}, {"\x05", 1}, {"\xE0", 1}, {"\xFF", 1}, {"\xC2", 1}, {"\xC3", 1}, {"\xCC\x00", 2}, {"\xCD\x01\x00", 3}, {"\xCE\x00\x00\x00\x00", 5}, {"\xCF" + strings.Repeat("\x00", 8), 9}, {"\xD0\x00", 2}, {"\xD1\x00\xC1", 3}, {"\xD2\x00\x00\x00\x00", 5}, {"\xD3" + strings.Repeat("\xFF", 8), 9},
		{"\xCA\x00\x00\x00\x00", 5}, {"\xCB" + strings.Repeat("\x00", 8), 9},
		{"\xC4\x00", 2}, {"\xC4\x03abc", 5}, {"\xC5\x00\x03abc", 6}, {"\xC6\x00\x00\x00\x01a", 6}, {"\xA0", 1}, {"\xA3abc", 4}, {"\xD9\x01a", 3}, {"\xDA\x00\x00", 3}, {"\xDB\x00\x00\x00\x01a", 6},
		{"\xD4\x05a", 3}, {"\xD8\x05" + strings.Repeat("a", 16), 18}, {"\xC7\x00\x05", 3}, {"\xC7\x02\x05ab", 5}, {"\xC8\x00\x01\x05a", 5}, {"\xC9\x00\x00\x00\x00\x05", 6},
		{"\x90", 1}, {"\x80", 1}, {"\xDC\x00\x00", 3}, {"\xDD\x00\x00\x00\x00", 5}, {"\xDE\x00\x00", 3}, {"\xDF\x00\x00\x00\x00", 5},
	} {
		most1 := api.MaxNodes - 1
		b := []byte("\xDC\xFF\xFF" + strings.Repeat("\xC0", most1-1) + x.last)
		last, _, _ := wantDecode([]byte(x.last), most)
		checkTaken(t, b, most, list(append(nulls(most1-1), last)...))
		// One value more ahead of it.
		b = []byte("\xDD\x00\x01\x00\x00" + strings.Repeat("\xC0", most1) + x.last)
		place := len(b) - len(x.last)
		checkRefused(t, b, most, place, api.ErrLimit)
		checkRefused(t, append(slices.Clone(b), 0xC1), most, place, api.ErrLimit)
		checkRefused(t, b[:place+x.length], most, place, api.ErrLimit)
		checkRefused(t, b[:place+x.length-1], most, place+x.length-1, api.ErrShort)
	}
	checkCountsOfMaps(t)
}

func checkCountsOfMaps(t *testing.T) {
	t.Helper()
	b := []byte("\xDE\x7F\xFF" + strings.Repeat("\xC0", api.MaxNodes-2))
	checkTaken(t, b, most, pairs(nulls(api.MaxNodes-2)...))
	b = []byte("\xDE\x80\x00" + strings.Repeat("\xC0", api.MaxNodes))
	checkRefused(t, b, most, 3+api.MaxNodes-1, api.ErrLimit) // the last key's value
	b = []byte("\x91\xDE\x7F\xFF" + strings.Repeat("\xC0", api.MaxNodes-2))
	checkTaken(t, b, most, list(pairs(nulls(api.MaxNodes-2)...)))
	b = []byte("\x91\x91\xDE\x7F\xFF" + strings.Repeat("\xC0", api.MaxNodes-2))
	checkRefused(t, b, most, len(b)-1, api.ErrLimit)
	// A head tells more values than there may be, of which just those that are
	// too many err.
	b = append([]byte{0xDD, 0, 0x0F, 0, 0}, strings.Repeat("\xC0", api.MaxNodes)...)
	checkRefused(t, b, most, len(b)-1, api.ErrLimit)
	checkRefused(t, b[:len(b)-1], most, len(b)-1, api.ErrShort)
	checkRefused(t, append(b[:len(b)-1], 0xC1), most, len(b)-1, api.ErrForm)
}

// TestCountWithinParts: what is wrong within one value too many is told as long
// as that is not whole.
func TestCountWithinParts(t *testing.T) {
	ahead := "\xDD\x00\x01\x00\x00" + strings.Repeat("\xC0", api.MaxNodes-1)
	for _, x := range []struct {
		letters string
		at      int
		e       api.Errno
	}{
		{"C1", 0, api.ErrForm}, {"A2 C3 28", 2, api.ErrForm}, {"A2 C3 A9", 0, api.ErrLimit}, {"A2 C3", 2, api.ErrShort}, {"A1 C3", 1, api.ErrForm}, {"D9 01 FF", 2, api.ErrForm},
		{"C4 02 00", 3, api.ErrShort}, {"C4 02 00 00", 0, api.ErrLimit}, {"C6 FF FF FF FF", 0, api.ErrLimit}, {"DB FF FF FF FF FF", 0, api.ErrLimit}, {"C7 01 05", 3, api.ErrShort}, {"D5 05 00", 3, api.ErrShort}, {"C9 FF FF FF FF", 0, api.ErrLimit},
		{"91 C1", 0, api.ErrLimit}, {"81", 0, api.ErrLimit}, {"DC 00", 2, api.ErrShort}, {"DF FF FF FF FF", 0, api.ErrLimit}, {"CC", 1, api.ErrShort},
	} {
		b := append([]byte(ahead), bytesOf(t, x.letters)...)
		checkAsWanted(t, b, most)
		checkRefused(t, b, most, len(ahead)+x.at, x.e)
	}
}

// TestFirstOfTwoErrors: the one that is told first, by the bytes' order.
func TestFirstOfTwoErrors(t *testing.T) {
	for _, x := range []struct {
		letters string
		l       api.Limits
		at      int
		e       api.Errno
	}{
		// Too deep, too long: ahead of a form error behind the first bytes.
		{"91 C1", api.Limits{Depth: 0, Size: 9}, 0, api.ErrLimit},
		{"91 C1", api.Limits{Depth: 1, Size: 9}, 1, api.ErrForm},
		{"91 C1", api.Limits{Depth: 1, Size: 1}, 0, api.ErrLimit},
		{"92 C0 C1", api.Limits{Depth: 1, Size: 2}, 0, api.ErrLimit},
		{"92 CC 00 C1", api.Limits{Depth: 1, Size: 3}, 3, api.ErrLimit},
		{"92 C1 91", api.Limits{Depth: 1, Size: 9}, 1, api.ErrForm}, // a form error ahead of what is too deep
		{"92 C1 9F", api.Limits{Depth: 9, Size: 3}, 1, api.ErrForm}, // and of what is too long
		{"92 91 C1", api.Limits{Depth: 1, Size: 9}, 1, api.ErrLimit},
		{"91 9F", api.Limits{Depth: 1, Size: 9}, 1, api.ErrLimit}, // both too deep and too long
		{"9F", api.Limits{Depth: 0, Size: 9}, 0, api.ErrLimit},
		{"DC 00", api.Limits{Depth: 0, Size: 9}, 2, api.ErrShort}, // too deep, but its count is not there
		{"DC 00 01", api.Limits{Depth: 0, Size: 9}, 0, api.ErrLimit},
		{"DC 00 01", api.Limits{Depth: 0, Size: 2}, 2, api.ErrLimit},
		{"DD FF FF FF FF", api.Limits{Depth: 0, Size: 4}, 4, api.ErrLimit},
		{"81 A1 FF 90", api.Limits{Depth: 1, Size: 9}, 2, api.ErrForm},
		{"81 A2 FF 90", api.Limits{Depth: 1, Size: 3}, 1, api.ErrLimit}, // the text is too long
		{"A5 61 FF", api.Limits{Depth: 0, Size: 5}, 0, api.ErrLimit},
		{"A5 61 FF", api.Limits{Depth: 0, Size: 6}, 2, api.ErrForm}, // a form error ahead of the end of b
		{"A5 61 62", api.Limits{Depth: 0, Size: 6}, 3, api.ErrShort},
		{"C7 05 C1", api.Limits{Depth: 0, Size: 7}, 0, api.ErrLimit},
		{"C7 05 C1", api.Limits{Depth: 0, Size: 8}, 3, api.ErrShort},
		{"90 C1", api.Limits{Depth: 0, Size: 9}, 0, api.ErrLimit},
		{"90 C1", api.Limits{Depth: 1, Size: 9}, 1, api.ErrForm},
		{"90 C1", api.Limits{Depth: 1, Size: 1}, 1, api.ErrLimit}, // no form error at the place l.Size
		{"C1", api.Limits{Depth: 0, Size: 0}, 0, api.ErrLimit},
		{"C1", api.Limits{Depth: -1, Size: 0}, 0, api.ErrArg},
		{"91 C1", api.Limits{Depth: 65, Size: 1}, 0, api.ErrArg},
	} {
		b := bytesOf(t, x.letters)
		checkRefused(t, b, x.l, x.at, x.e)
		checkAsWanted(t, b, x.l)
	}
}
