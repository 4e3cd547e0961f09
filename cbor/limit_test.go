package cbor_test

import (
	"slices"
	"strings"
	"testing"

	"glossator/api"
)

func size(n int) api.Limits  { return api.Limits{Depth: api.MaxDepth, Size: n} }
func depth(n int) api.Limits { return api.Limits{Depth: n, Size: api.MaxSize} }

// TestSizePlace: the byte at the place l.Size is not looked at, nor what stands
// behind it; of that place there is no other error.
func TestSizePlace(t *testing.T) {
	for _, x := range []struct {
		letters string
		size    int
		at      int
		e       api.Errno
	}{
		{"00", 0, 0, api.ErrLimit}, {"FF", 0, 0, api.ErrLimit}, {"1C", 0, 0, api.ErrLimit}, {"", 0, 0, api.ErrShort},
		{"00 00", 1, 1, api.ErrLimit}, {"00 FF", 1, 1, api.ErrLimit}, {"80 1C 00", 1, 1, api.ErrLimit}, // behind the item
		{"00 00 00", 2, 1, api.ErrForm}, {"00 00", 2, 1, api.ErrForm},
		{"18", 1, 1, api.ErrShort}, {"18 18", 1, 1, api.ErrLimit}, {"1B 00 00", 2, 2, api.ErrLimit}, {"FB 00", 1, 1, api.ErrLimit},
		{"F8 18", 1, 1, api.ErrLimit}, {"F8 18", 2, 1, api.ErrForm}, {"F8", 1, 1, api.ErrShort},
		{"82 00 FF", 3, 2, api.ErrForm}, {"9F 00 FF", 2, 2, api.ErrLimit}, {"9F 00 1C", 2, 2, api.ErrLimit}, {"9F 00", 2, 2, api.ErrShort}, {"9F 1C 00", 1, 1, api.ErrLimit},
		{"BF 00 FF", 2, 2, api.ErrLimit}, {"BF 00 FF", 3, 2, api.ErrForm}, {"BF 00 00 FF", 3, 3, api.ErrLimit},
		{"C0 00", 1, 1, api.ErrLimit}, {"C0 FF", 1, 1, api.ErrLimit}, {"C0 FF", 2, 1, api.ErrForm}, {"C0", 1, 1, api.ErrShort}, {"D8", 1, 1, api.ErrShort},
		{"5F FF", 1, 1, api.ErrLimit}, {"5F 61 61", 1, 1, api.ErrLimit}, {"5F 61 61", 2, 1, api.ErrForm}, {"5F 41 61 61", 3, 3, api.ErrLimit}, {"5F 41 61", 3, 3, api.ErrShort}, {"5F 41 61 61", 4, 3, api.ErrForm},
		{"5F 58 01", 2, 2, api.ErrLimit}, {"5F 78 01", 2, 1, api.ErrForm}, {"5F 19", 2, 1, api.ErrForm}, {"7F 9B 00", 2, 1, api.ErrForm},
		{"82 80 82 00 00", 3, 2, api.ErrLimit}, // the inner list would end behind it
		{"82 80 81 00", 3, 2, api.ErrLimit}, {"82 80 81", 3, 2, api.ErrLimit}, {"82 80 80 00", 3, 3, api.ErrLimit}, {"82 82 00 00", 3, 1, api.ErrLimit}, {"82 82 00 00 00", 5, 5, api.OK},
		{"82 82 00", 3, 1, api.ErrLimit}, {"82 82 00", 4, 3, api.ErrShort}, {"82 80", 3, 2, api.ErrShort},
	} {
		b := bytesOf(t, x.letters)
		checkAsWanted(t, b, size(x.size))
		if x.e != api.OK {
			checkRefused(t, b, size(x.size), x.at, x.e)
		}
		if x.size == len(b) || x.at < x.size && x.e == api.ErrForm {
			continue
		}
		for first := range 256 { // whatever stands there
			other := append(slices.Clone(b[:min(len(b), x.size)]), byte(first), 0x1C, 0x00)
			if x.size <= len(b) && x.e == api.ErrLimit {
				checkRefused(t, other, size(x.size), x.at, x.e)
			}
			checkAsWanted(t, other, size(x.size))
		}
	}
}

// lengths are heads of items of so many parts, of at least so many bytes each.
var lengths = []struct {
	major byte
	each  int
	part  string
}{{0x40, 1, "\xFF"}, {0x60, 1, "a"}, {0x80, 1, "\xF6"}, {0xA0, 2, "\xF6\xF6"}}

// TestLengthAtSize: what ends just at the place l.Size, one behind it, and far
// beyond; what stands behind the head counts for nothing then.
func TestLengthAtSize(t *testing.T) {
	for _, x := range lengths {
		for _, n := range []int{0, 1, 2, 3, 22, 23} {
			b := append([]byte{x.major + byte(n)}, strings.Repeat(x.part, n)...)
			for _, ahead := range []string{"", "\x81", "\x82\x80", "\xA1\x00", "\xC0"} {
				item := append([]byte(ahead), b...)
				v, _, _ := wantDecode(item, most)
				checkTaken(t, item, size(len(item)), v)
				for less := 1; less <= n*x.each; less++ {
					checkAsWanted(t, item, size(len(item)-less))
					if ahead == "" || ahead == "\xC0" {
						checkRefused(t, item, size(len(item)-less), len(ahead), api.ErrLimit)
						checkRefused(t, append(slices.Clone(item[:len(ahead)+1]), 0x1C), size(len(item)-less), len(ahead), api.ErrLimit)
						checkRefused(t, item[:len(ahead)+1], size(len(item)-less), len(ahead), api.ErrLimit)
					}
				}
			}
		}
		for _, head := range []string{"\x18\x18", "\x18\xFF", "\x19\x01\x00", "\x19\xFF\xFF", "\x1A\x00\x01\x00\x00", "\x1A\xFF\xFF\xFF\xFF", "\x1B\x00\x00\x00\x01\x00\x00\x00\x00", "\x1B\x7F\xFF\xFF\xFF\xFF\xFF\xFF\xFF", "\x1B\x80\x00\x00\x00\x00\x00\x00\x00", "\x1B\x80\x00\x00\x00\x00\x00\x00\x01", "\x1B\xFF\xFF\xFF\xFF\xFF\xFF\xFF\xFF"} {
			b := []byte(head)
			b[0] += x.major
			n := uint64(0)
			for _, part := range b[1:] {
				n = n<<8 + uint64(part)
			}
			for _, l := range []int{len(b), len(b) + 23, api.MaxSize} {
				if n*uint64(x.each) > uint64(l-len(b)) || n > 1<<40 {
					checkRefused(t, b, size(l), 0, api.ErrLimit)
					checkRefused(t, append(slices.Clone(b), 0x1C, 0xFF), size(l), 0, api.ErrLimit)
				} else {
					checkRefused(t, b, size(l), len(b), api.ErrShort)
				}
			}
			// The head itself goes first.
			for cut := range b {
				checkRefused(t, b[:cut], size(9), cut, api.ErrShort)
				checkRefused(t, b, size(cut), cut, api.ErrLimit)
			}
		}
	}
}

// TestLengthAtGreatestSize: items that end at the place MaxSize, and behind it.
func TestLengthAtGreatestSize(t *testing.T) {
	for _, x := range lengths[:2] {
		n := api.MaxSize - 5
		s := strings.Repeat(x.part, n)
		b := append([]byte{x.major + 26, 0, 0x0F, 0xFF, 0xFB}, s...)
		v := raw(s)
		if x.major == 0x60 {
			v = text(s)
		}
		checkTaken(t, b, most, v)
		checkRefused(t, append(slices.Clone(b), 0xFF), most, api.MaxSize, api.ErrLimit)
		checkRefused(t, b[:len(b)-1], most, len(b)-1, api.ErrShort)
		b[4]++
		checkRefused(t, b, most, 0, api.ErrLimit)
		checkRefused(t, append(b, 'a'), most, 0, api.ErrLimit)
	}
}

// TestPieceAtSize: a piece's length is told of with its own head.
func TestPieceAtSize(t *testing.T) {
	for _, x := range lengths[:2] {
		open := x.major + 31
		b := []byte{open, x.major + 1, 'a', x.major + 3, 'a', 'b', 'c', 0xFF}
		want := raw("aabc")
		if x.major == 0x60 {
			want = text("aabc")
		}
		checkTaken(t, b, size(8), want)
		checkRefused(t, b, size(7), 7, api.ErrLimit)
		checkRefused(t, b[:7], size(7), 7, api.ErrShort)
		for n := 4; n < 7; n++ {
			checkRefused(t, b, size(n), 3, api.ErrLimit)
			checkRefused(t, b[:4], size(n), 3, api.ErrLimit)
		}
		checkRefused(t, b, size(3), 3, api.ErrLimit)
		checkRefused(t, b, size(2), 1, api.ErrLimit)
		checkRefused(t, b, size(1), 1, api.ErrLimit)
		far := append([]byte{open, x.major + 1, 'a', x.major + 27}, strings.Repeat("\xFF", 8)...)
		checkRefused(t, far, most, 3, api.ErrLimit)
		checkRefused(t, append(far, 0x1C), most, 3, api.ErrLimit)
		checkRefused(t, far[:11], most, 11, api.ErrShort)
		checkRefused(t, far, size(11), 11, api.ErrLimit)
	}
}

// TestTextAtSize: a text that is wrong at each of its bytes, cut ahead of that
// byte, at it, and behind it, by the end of b and by l.Size.
func TestTextAtSize(t *testing.T) {
	for _, s := range []string{"abcd", "a\u00FCb", "\u20ACx", "x\u20AC", "\U0001F600", "\u00FC\u00FC"} {
		for _, ahead := range []string{"", "\x82\x00", "\x7F\x61a", "\xC2"} {
			whole := ahead + string([]byte{0x60 + byte(len(s))}) + s
			start := len(ahead) + 1
			for wrong := range len(s) {
				for _, other := range []byte{0xFF, 0x80, 0xC3, 0xE2, 0xF0, 'a'} {
					b := []byte(whole)
					b[start+wrong] = other
					for cut := start; cut <= len(b); cut++ {
						for _, n := range []int{start, start + wrong, start + wrong + 1, len(b) - 1, len(b), len(b) + 1, api.MaxSize} {
							checkAsWanted(t, b[:cut], size(n))
							checkAsWanted(t, append(slices.Clone(b), 0xFF), size(n))
						}
					}
				}
				b := []byte(whole)
				b[start+wrong] = 0xFF
				checkRefused(t, b, size(len(b)), start+wrong, api.ErrForm)
				checkRefused(t, b[:start+wrong+1], size(len(b)), start+wrong, api.ErrForm)
				checkRefused(t, b[:start+wrong], size(len(b)), start+wrong, api.ErrShort)
				for n := start; n < len(b); n++ {
					checkRefused(t, b, size(n), start-1, api.ErrLimit)
					checkRefused(t, b[:start+wrong], size(n), start-1, api.ErrLimit)
				}
			}
		}
	}
}

// TestDepth: lists, maps, tags and a KBig at the depth, and one deeper; with
// lengths, and open.
func TestDepth(t *testing.T) {
	for _, x := range []struct{ begin, inner, end string }{
		{"\x81", "\x80", ""}, {"\x9F", "\x9F\xFF", "\xFF"}, {"\xA1\x00", "\xA0", ""}, {"\xBF\x00", "\xBF\xFF", "\xFF"}, {"\xA1", "\xA0", "\x00"},
		{"\xC1", "\xC1\x00", ""}, {"\xC2", "\xC3\x40", ""}, {"\xD8\x63", "\xDB\x00\x00\x00\x00\x00\x00\x00\x00\xF6", ""}, {"\x81", "\xC2\x49" + big(9), ""}, {"\xC2", "\xC3\x5F\x49" + big(9) + "\xFF", ""},
	} {
		for _, n := range []int{0, 1, 2, 63, 64} {
			for _, l := range []int{0, 1, 2, 3, 62, 63, 64} {
				begins := strings.Repeat(x.begin, n)
				b := []byte(begins + x.inner + strings.Repeat(x.end, n))
				checkAsWanted(t, b, depth(l))
				if n < l {
					v, _, _ := wantDecode(b, most)
					checkTaken(t, b, depth(l), v)
					continue
				}
				at := l * len(x.begin)
				checkRefused(t, b, depth(l), at, api.ErrLimit)
				// A form error, an end and the place l.Size behind that head come later.
				length := headLength(b[at])
				checkRefused(t, b[:at+length], depth(l), at, api.ErrLimit)
				checkRefused(t, append(slices.Clone(b[:at+length]), 0x1C), depth(l), at, api.ErrLimit)
				if x.begin != "\xA1" { // of which the first head may not end there
					checkRefused(t, b, api.Limits{Depth: l, Size: at + length}, at, api.ErrLimit)
				}
				// Within the head they are ahead.
				if length > 1 {
					checkRefused(t, b[:at+1], depth(l), at+1, api.ErrShort)
					checkRefused(t, b, api.Limits{Depth: l, Size: at + 1}, at+1, api.ErrLimit)
				}
				checkAsWanted(t, b, api.Limits{Depth: l, Size: at + length})
			}
		}
	}
}

// headLength is how many bytes a head has that begins so.
func headLength(first byte) int {
	switch first % 32 {
	case 24:
		return 2
	case 27:
		return 9
	}
	return 1
}

// TestCount: MaxNodes values are taken, and one more is not: of it the head's
// place is told, of bytes and texts when they are whole.
func TestCount(t *testing.T) {
	for _, x := range []struct {
		last   string
		values int // how many it makes
		at     int // where the first one begins that is one too many
		length int // how many of its bytes must be there for it to be told
	}{
		{"\xF6", 1, 0, 1}, {"\x20", 1, 0, 1}, {"\x19\x01\x00", 1, 0, 3}, {"\xF8\x20", 1, 0, 2}, {"\xFB" + strings.Repeat("\x00", 8), 1, 0, 9}, {"\xF4", 1, 0, 1},
		{"\x43abc", 1, 0, 4}, {"\x5F\x41a\x40\xFF", 1, 0, 5}, {"\x63abc", 1, 0, 4}, {"\x7F\x61a\xFF", 1, 0, 4}, {"\x40", 1, 0, 1}, {"\x60", 1, 0, 1},
		{"\x80", 1, 0, 1}, {"\x9F\xFF", 1, 0, 1}, {"\xA0", 1, 0, 1}, {"\xBF\xFF", 1, 0, 1}, {"\x98\x00", 1, 0, 2},
		{"\xC2\x49" + big(9), 1, 0, 1}, {"\xC3\x5F\x44\x01abc\x45defgh\xFF", 1, 0, 1}, // a KBig is one value
		{"\xC2\x48" + big(8), 2, 1, 9}, {"\xC3\x49\x00" + big(8), 2, 1, 10}, {"\xC2\x5F\x41\x01\xFF", 2, 1, 4}, {"\xC1\x49" + big(9), 2, 1, 10}, {"\xC2\x61a", 2, 1, 2}, {"\xC2\x80", 2, 1, 1},
		{"\xC1\xF6", 2, 1, 1}, {"\x81\xF6", 2, 1, 1}, {"\x9F\x20\xFF", 2, 1, 1},
	} {
		fits := api.MaxNodes - 1 - x.values
		b := []byte("\x9F" + strings.Repeat("\xF6", fits) + x.last + "\xFF")
		last, _, _ := wantDecode([]byte("\x9F"+x.last+"\xFF"), most)
		checkTaken(t, b, most, list(append(nulls(fits), last.L...)...))
		// One value more ahead of it.
		b = []byte("\x9F" + strings.Repeat("\xF6", fits+1) + x.last)
		place := 1 + fits + 1 + x.at
		checkRefused(t, append(slices.Clone(b), 0x1C), most, place, api.ErrLimit)
		checkRefused(t, b[:place+x.length], most, place, api.ErrLimit)
		checkRefused(t, b[:place+x.length-1], most, place+x.length-1, api.ErrShort)
	}
	b := []byte("\xBF" + strings.Repeat("\xF6", api.MaxNodes-2) + "\xFF")
	checkTaken(t, b, most, pairs(nulls(api.MaxNodes-2)...))
	b = []byte("\xBF" + strings.Repeat("\xF6", api.MaxNodes) + "\xFF")
	checkRefused(t, b, most, api.MaxNodes, api.ErrLimit)
	// A head tells more values than there may be, of which just those that are
	// too many err.
	b = append([]byte{0x9A, 0, 1, 0, 0}, strings.Repeat("\xF6", api.MaxNodes)...)
	checkRefused(t, b, most, 5+api.MaxNodes-1, api.ErrLimit)
	checkRefused(t, b[:len(b)-1], most, len(b)-1, api.ErrShort)
	b = append([]byte{0x99, 0xFF, 0xFF}, strings.Repeat("\xF6", api.MaxNodes-1)...)
	checkTaken(t, b, most, list(nulls(api.MaxNodes-1)...))
}

// TestCountWithinText: what is wrong within bytes or a text that are one too
// many is told, as they are not whole yet.
func TestCountWithinText(t *testing.T) {
	ahead := "\x9F" + strings.Repeat("\xF6", api.MaxNodes-1)
	for _, x := range []struct {
		letters string
		at      int
		e       api.Errno
	}{
		{"62 C3 28", 2, api.ErrForm}, {"62 C3 A9", 0, api.ErrLimit}, {"7F 61 C3", 2, api.ErrForm}, {"7F 41 61", 1, api.ErrForm}, {"7F 61 61", 3, api.ErrShort}, {"7F 61 61 FF", 0, api.ErrLimit},
		{"5F 5F", 1, api.ErrForm}, {"42 00", 2, api.ErrShort}, {"42 00 00", 0, api.ErrLimit}, {"5A FF FF FF FF", 0, api.ErrLimit}, {"5F 5A FF FF FF FF", 1, api.ErrLimit}, {"F8 00", 1, api.ErrForm}, {"FF", 1, api.OK},
		{"C2 5F 00", 0, api.ErrLimit}, {"C2 62 C3 28", 0, api.ErrLimit}, {"C2", 0, api.ErrLimit},
	} {
		b := append([]byte(ahead), bytesOf(t, x.letters)...)
		checkAsWanted(t, b, most)
		if x.e != api.OK {
			checkRefused(t, b, most, len(ahead)+x.at, x.e)
		}
	}
}

// TestBigs: tags 2 and 3 with bytes that could be a KBig's, and others.
func TestBigs(t *testing.T) {
	for tagged, neg := range map[byte]bool{0xC2: false, 0xC3: true} {
		for _, n := range []int{0, 1, 7, 8, 9, 10, 23, 24, 255, 256, 511, 512, 513, 600} {
			for _, first := range []string{"\x00", "\x01", "\x80", "\xFF"} {
				s := (first + strings.Repeat("\x00", 600))[:n]
				want := tag(uint64(tagged-0xC0), raw(s))
				if n > 8 && n < 513 && first != "\x00" {
					want = api.Value{K: api.KBig, Neg: neg, S: s}
				}
				half := n / 2
				for _, item := range []string{
					wantHead(2, uint64(n)) + s, "\x5F" + wantHead(2, uint64(n)) + s + "\xFF",
					"\x5F\x40" + wantHead(2, uint64(half)) + s[:half] + "\x58\x00" + wantHead(2, uint64(n-half)) + s[half:] + "\x40\xFF",
				} {
					b := append([]byte{tagged}, item...)
					checkTaken(t, b, depth(1), want)
					checkRefused(t, b, depth(0), 0, api.ErrLimit)
					checkRefused(t, b[:1], depth(0), 0, api.ErrLimit)
					checkRefused(t, append(slices.Clone(b), 0x40), depth(1), len(b), api.ErrForm)
					checkTaken(t, append([]byte{0xC2}, b...), depth(2), tag(2, want))
					checkTaken(t, slices.Concat([]byte{0x82}, b, b), depth(2), list(want, want))
					checkTaken(t, slices.Concat([]byte{0xD8, tagged - 0xC0}, b[1:]), depth(1), want) // with a longer head
					checkTaken(t, slices.Concat([]byte{0xC4}, b[1:]), depth(1), tag(4, raw(s)))
					for cut := range min(len(b), 20) {
						checkRefused(t, b[:cut], most, cut, api.ErrShort)
						checkAsWanted(t, b, size(cut))
					}
				}
			}
		}
		for _, x := range []struct {
			letters string
			want    api.Value
		}{
			{"69 61 62 63 64 65 66 67 68 69", text("abcdefghi")}, {"00", whole(0)}, {"81 49 01 00 00 00 00 00 00 00 00", list(raw(big(9)))}, {"C1 49 01 00 00 00 00 00 00 00 00", tag(1, raw(big(9)))}, {"F6", null()}, {"A0", pairs()}, {"7F FF", text("")},
		} {
			b := append([]byte{tagged}, bytesOf(t, x.letters)...)
			checkTaken(t, b, most, tag(uint64(tagged-0xC0), x.want))
		}
		for _, x := range []struct {
			letters string
			at      int
		}{{"FF", 1}, {"1C", 1}, {"5F 00", 2}, {"5F 49 01 00 00 00 00 00 00 00 00 61", 12}, {"5F 5F", 2}, {"F8 00", 2}, {"5C", 1}} {
			b := append([]byte{tagged}, bytesOf(t, x.letters)...)
			checkRefused(t, b, most, x.at, api.ErrForm)
			checkRefused(t, b, depth(0), 0, api.ErrLimit) // the tag goes first
		}
		far := []byte{tagged, 0x49, 1}
		checkRefused(t, far, size(10), 1, api.ErrLimit)
		checkRefused(t, far, size(11), 3, api.ErrShort)
		far = []byte{tagged, 0x5F, 0x49, 1}
		checkRefused(t, far, size(11), 2, api.ErrLimit)
	}
}
