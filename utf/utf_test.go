package utf_test

import (
	"strings"
	"testing"
	"unicode/utf8"

	"glossator/api"
	"glossator/utf"
)

func TestCheckOfRight(t *testing.T) {
	for _, s := range append(rightTexts(), strings.Repeat("a\u00E4\u20AC\U0001F600", 1<<17)) {
		if n, e := utf.Check(s); n != len(s) || e != api.OK {
			t.Errorf("Check of %d bytes: %d, %v", len(s), n, e)
		}
	}
}

func TestCheckOfWrong(t *testing.T) {
	for _, c := range []struct {
		s  string
		at int
	}{
		{"\xC3\x28", 1}, {"\x80", 0}, {"\xBF", 0}, {"\xC0", 0}, {"\xC1\xBF", 0}, {"\xF5\x80\x80\x80", 0}, {"\xFF", 0},
		{"\xE0\x9F\xBF", 1}, {"\xED\xA0\x80", 1}, {"\xED\xBF\xBF", 1}, {"\xF0\x8F\xBF\xBF", 1}, {"\xF4\x90\x80\x80", 1},
		{"\xE2\x82\x28", 2}, {"\xF0\x9F\x28\x80", 2}, {"\xF0\x9F\x98\x28", 3}, {"\xE2\x82\xC3\xA4", 2}, {"\xE2\xC3\xA4", 1},
		{"abc\xFFdef\xFF", 3}, {"\u20AC\x80", 3}, {"\u00E4\xC3\xC3", 3}, {"\U0010FFFF\xF4\x90", 5},
		{strings.Repeat("\u20AC", 1000) + "\xE2\x82", -1}, {strings.Repeat("\u20AC", 1000) + "\xE2\x82x\u20AC", 3002},
	} {
		at, e := utf.Check(c.s)
		if c.at < 0 {
			checkPlace(t, "Check", c.s, at, e, len(c.s), api.ErrShort)
		} else {
			checkPlace(t, "Check", c.s, at, e, c.at, api.ErrForm)
		}
	}
}

func TestCheckOfShort(t *testing.T) {
	for _, s := range shortTexts() {
		at, e := utf.Check(s)
		checkPlace(t, "Check", s, at, e, len(s), api.ErrShort)
	}
}

// TestFirstAndSecondBytes: each first byte, and the range of its second one,
// as the document lists them.
func TestFirstAndSecondBytes(t *testing.T) {
	ranges := []struct {
		from, to, low, high int
		size                int
	}{
		{0x00, 0x7F, 0, 0, 1}, {0xC2, 0xDF, 0x80, 0xBF, 2}, {0xE0, 0xE0, 0xA0, 0xBF, 3}, {0xE1, 0xEC, 0x80, 0xBF, 3},
		{0xED, 0xED, 0x80, 0x9F, 3}, {0xEE, 0xEF, 0x80, 0xBF, 3}, {0xF0, 0xF0, 0x90, 0xBF, 4}, {0xF1, 0xF3, 0x80, 0xBF, 4},
		{0xF4, 0xF4, 0x80, 0x8F, 4},
	}
	for first := range 256 {
		size, low, high := 0, 0, 0
		for _, r := range ranges {
			if r.from <= first && first <= r.to {
				size, low, high = r.size, r.low, r.high
			}
		}
		s := string([]byte{byte(first)})
		at, e := utf.Check(s)
		switch {
		case size == 0:
			checkPlace(t, "Check", s, at, e, 0, api.ErrForm)
		case size == 1:
			checkPlace(t, "Check", s, at, e, 1, api.OK)
		default:
			checkPlace(t, "Check", s, at, e, 1, api.ErrShort)
			checkSecondBytes(t, s, low, high, size)
		}
	}
}

func checkSecondBytes(t *testing.T, first string, low, high, size int) {
	t.Helper()
	for second := range 256 {
		s := first + string([]byte{byte(second)})
		at, e := utf.Check(s)
		switch {
		case second < low || second > high:
			checkPlace(t, "Check", s, at, e, 1, api.ErrForm)
			continue
		case size == 2:
			checkPlace(t, "Check", s, at, e, 2, api.OK)
			continue
		}
		checkPlace(t, "Check", s, at, e, 2, api.ErrShort)
		whole := s + strings.Repeat("\xBF", size-2)
		at, e = utf.Check(whole)
		checkPlace(t, "Check", whole, at, e, size, api.OK)
		at, e = utf.Check(whole + "\x80")
		checkPlace(t, "Check", whole+"\x80", at, e, size, api.ErrForm)
	}
}

// eachText goes over all texts of up to two bytes, and over those of three and
// four of which others than the first two are at an edge.
func eachText(yield func(string)) {
	yield("")
	edges, later := edgeBytes(), []byte{0x00, 0x7F, 0x80, 0x9F, 0xA0, 0xBF, 0xC0, 0xE2, 0xFF}
	for a := range 256 {
		yield(string([]byte{byte(a)}))
		for b := range 256 {
			yield(string([]byte{byte(a), byte(b)}))
			for _, c := range later {
				yield(string([]byte{byte(a), byte(b), c}))
			}
		}
	}
	for _, a := range edges {
		for _, b := range edges {
			for _, c := range later {
				for _, d := range later {
					yield(string([]byte{a, b, c, d}))
				}
			}
		}
	}
}

func TestCheckOfEachText(t *testing.T) {
	eachText(func(s string) {
		at, e := utf.Check(s)
		wantAt, want := wantCheck(s)
		checkPlace(t, "Check", s, at, e, wantAt, want)
	})
	c := chance(88172645463325252)
	for range 3000 {
		s := c.text(12)
		at, e := utf.Check(s)
		wantAt, want := wantCheck(s)
		checkPlace(t, "Check", s, at, e, wantAt, want)
	}
}

func TestWithin(t *testing.T) {
	long := strings.Repeat("\u20AC", 1<<16)
	for _, c := range []struct {
		s    string
		n    int
		at   int
		want api.Errno
	}{
		{"\xE2", 2, 0, api.ErrForm}, {"\xE2", 3, 1, api.ErrShort}, {"\xE2\x82", 2, 0, api.ErrForm}, {"\xE2\x82", 3, 2, api.ErrShort},
		{"\xE2\x82\xAC", 3, 3, api.OK}, {"\xE2\x82\xAC", 4, 3, api.ErrShort}, {"\xE2\x82\xACx", 3, 3, api.OK}, {"\xE2\x82\xAC\xFF", 3, 3, api.OK},
		{"\xE2\x82\xAC", 2, 0, api.ErrForm}, {"\xE2\x82\xAC", 1, 0, api.ErrForm}, {"\xE2\x28", 2, 0, api.ErrForm}, {"\xE2\x28", 3, 1, api.ErrForm},
		{"", 0, 0, api.OK}, {"", 1, 0, api.ErrShort}, {"", maxInt, 0, api.ErrShort}, {"", -1, 0, api.OK},
		{"abc", 0, 0, api.OK}, {"abc", -1, 0, api.OK}, {"\xFF", -7, 0, api.OK}, {"\xFF", 0, 0, api.OK}, {"\xFF", -maxInt - 1, 0, api.OK},
		{"abc", 2, 2, api.OK}, {"abc", 3, 3, api.OK}, {"abc", 4, 3, api.ErrShort}, {"abc", maxInt, 3, api.ErrShort},
		{"a\xC3", 2, 1, api.ErrForm}, {"a\xC3", 3, 2, api.ErrShort}, {"a\xC3\x28", 3, 2, api.ErrForm}, {"a\xFF", 1, 1, api.OK}, {"a\xFF", 2, 1, api.ErrForm},
		{"\xF0\x9F\x98", 3, 0, api.ErrForm}, {"\xF0\x9F\x98", 4, 3, api.ErrShort}, {"\xF0\x9F\x98\x80", 4, 4, api.OK}, {"\xF4\x90", maxInt, 1, api.ErrForm},
		{"ab\xF0", 5, 2, api.ErrForm}, {"ab\xF0", 6, 3, api.ErrShort}, {"\xE2\x82", maxInt, 2, api.ErrShort},
		{long, len(long), len(long), api.OK}, {long, len(long) - 1, len(long) - 3, api.ErrForm}, {long, len(long) + 1, len(long), api.ErrShort},
	} {
		at, e := utf.Within(c.s, c.n)
		if at != c.at || e != c.want {
			t.Errorf("Within(% X, %d): %d, %v, want %d, %v", c.s[:min(len(c.s), 9)], c.n, at, e, c.at, c.want)
		}
	}
}

func TestWithinOfEachText(t *testing.T) {
	try := func(s string, from, to int) {
		for n := from; n <= to; n++ {
			at, e := utf.Within(s, n)
			wantAt, want := wantWithin(s, n)
			checkPlace(t, "Within", s, at, e, wantAt, want)
		}
	}
	eachText(func(s string) { try(s, len(s)-1, len(s)+2) })
	c := chance(362436069)
	for range 300 {
		s := c.text(6)
		try(s, -2, len(s)+6)
		try(s, maxInt-3, maxInt-1)
	}
}

func TestPoint(t *testing.T) {
	for c := range rune(utf8.MaxRune + 1) {
		if !utf8.ValidRune(c) {
			continue
		}
		s := string(c)
		for _, behind := range []string{"", "\xFF", "\x80", "z"} {
			if point, n := utf.Point(s + behind); point != int(c) || n != len(s) {
				t.Fatalf("Point of % X: %X, %d, want %X, %d", s+behind, point, n, c, len(s))
			}
		}
	}
}

func TestPointOfNone(t *testing.T) {
	eachText(func(s string) {
		want, size := utf8.DecodeRuneInString(s)
		if want == utf8.RuneError && size < 2 {
			want, size = 0, 0
		}
		if point, n := utf.Point(s); point != int(want) || n != size {
			t.Fatalf("Point of % X: %X, %d, want %X, %d", s, point, n, want, size)
		}
	})
	for _, s := range []string{"", "\x80", "\xC3", "\xC3\x28", "\xE2\x82", "\xED\xA0\x80", "\xF4\x90\x80\x80", "\xC0\x80", "\xFFa"} {
		if point, n := utf.Point(s); point != 0 || n != 0 {
			t.Errorf("Point of % X: %X, %d, want 0, 0", s, point, n)
		}
	}
}

func TestEncode(t *testing.T) {
	for c := -3; c < 0x110003; c++ {
		want := ""
		if c >= 0 && utf8.ValidRune(rune(c)) {
			want = string(rune(c))
		}
		s := utf.Encode(c)
		if s != want {
			t.Fatalf("Encode(%X): % X, want % X", c, s, want)
		}
		point, n := utf.Point(s)
		if s != "" && (point != c || n != len(s)) {
			t.Fatalf("Point of Encode(%X): %X, %d", c, point, n)
		}
	}
	for c, want := range map[int]string{
		0: "\x00", 0x7F: "\x7F", 0x80: "\xC2\x80", 0x7FF: "\xDF\xBF", 0x800: "\xE0\xA0\x80", 0xD7FF: "\xED\x9F\xBF", 0xD800: "", 0xDBFF: "",
		0xDC00: "", 0xDFFF: "", 0xE000: "\xEE\x80\x80", 0xFFFD: "\xEF\xBF\xBD", 0xFFFF: "\xEF\xBF\xBF", 0x10000: "\xF0\x90\x80\x80",
		0x10FFFF: "\xF4\x8F\xBF\xBF", 0x110000: "", -1: "", maxInt: "", -maxInt - 1: "", 1<<32 + 'a': "", -1<<32 + 'a': "",
	} {
		if s := utf.Encode(c); s != want {
			t.Errorf("Encode(%X): % X, want % X", c, s, want)
		}
	}
}
