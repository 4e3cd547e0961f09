package utf_test

import (
	"strings"
	"testing"
	"unicode/utf8"

	"glossator/api"
)

const maxInt = int(^uint(0) >> 1)

// sizes tells of each beginning of a code point that is not whole how many
// bytes the whole one has. It is made of what the library writes, so that the
// tests do not rest on the package's own table.
var sizes = beginnings()

func beginnings() map[string]int {
	out := map[string]int{}
	for c := rune(0); c <= utf8.MaxRune; c++ {
		if !utf8.ValidRune(c) {
			continue
		}
		whole := string(c)
		for n := 1; n < len(whole); n++ {
			out[whole[:n]] = len(whole)
		}
	}
	return out
}

// wantWithin is what Within is to tell, byte by byte by the document's words.
func wantWithin(s string, n int) (int, api.Errno) {
	n = max(n, 0)
	s = s[:min(len(s), n)]
	from := 0
	for i := range len(s) {
		begun := s[from : i+1]
		if utf8.ValidString(begun) {
			from = i + 1
		} else if size, ok := sizes[begun]; !ok || size > n-from {
			return i, api.ErrForm
		}
	}
	if len(s) < n {
		return len(s), api.ErrShort
	}
	return n, api.OK
}

// wantCheck is what Check is to tell.
func wantCheck(s string) (int, api.Errno) {
	at, e := wantWithin(s, maxInt)
	if e == api.ErrShort && utf8.ValidString(s) {
		return at, api.OK
	}
	return at, e
}

// edgeBytes are those at which a range of the document begins or ends, and
// their neighbours.
func edgeBytes() []byte {
	return []byte{
		0x00, 0x28, 0x7F, 0x80, 0x81, 0x8F, 0x90, 0x91, 0x9F, 0xA0, 0xA1, 0xBE, 0xBF, 0xC0, 0xC1, 0xC2, 0xC3,
		0xDE, 0xDF, 0xE0, 0xE1, 0xEB, 0xEC, 0xED, 0xEE, 0xEF, 0xF0, 0xF1, 0xF2, 0xF3, 0xF4, 0xF5, 0xF7, 0xF8,
		0xFB, 0xFC, 0xFD, 0xFE, 0xFF,
	}
}

// wrongTexts are texts that err, each in its own way, and with what stands
// behind the wrong byte, which is not to be looked at.
func wrongTexts() []string {
	return []string{
		"\x80", "\xBF", "\xC0", "\xC1", "\xF5", "\xFE", "\xFF", "ab\x80c", "\xC3\x28", "\xC3\xC3\xA4", "\xC0\x80", "\xC1\xBF",
		"\xE0\x80\x80", "\xE0\x9F\xBF", "\xE2\x28\xA1", "\xE2\x82\x28", "\xE2\x82\xE2\x82\xAC", "\xED\xA0\x80", "\xED\xBF\xBF",
		"x\xED\xA0\xBD\xED\xB8\x80", "\xF0\x80\x80\x80", "\xF0\x8F\xBF\xBF", "\xF0\x28\x8C\xBC", "\xF0\x90\x28\xBC", "\xF0\x90\x8C\x28",
		"\xF4\x90\x80\x80", "\xF4\xBF\xBF\xBF", "\xF5\x80\x80\x80", "\xF8\x88\x80\x80\x80", "\xFC\x84\x80\x80\x80\x80",
		"\u00E4\u20AC\U0001F600\xFF\u00E4", "\U0010FFFF\xF4\x90", "\u20AC\x80", "\U0001F600\xBF", "\xC3\x80\x80",
	}
}

// rightTexts are right ones, with code points of all lengths, at the edges.
func rightTexts() []string {
	return []string{
		"", "\x00", "a", "plain text", "\x7F\u0080", "\u00E4", "\u07FF\u0800", "\u20AC", "\uD7FF\uE000", "\uFFFD", "\uFEFFx", "\uFFFF\U00010000",
		"\U0001F600", "\U000FFFFF\U00100000", "\U0010FFFF", "a\u00E4\u20AC\U0001F600", "\U0001F600\u20AC\u00E4a", strings.Repeat("\u20AC", 9),
	}
}

// shortTexts are beginnings of right ones that end within a code point.
func shortTexts() []string {
	return []string{
		"\xC2", "\xDF", "\xE0", "\xE0\xA0", "\xE2", "\xE2\x82", "\xED", "\xED\x9F", "\xEF\xBF", "\xF0", "\xF0\x90", "\xF0\x90\x80",
		"\xF1\x80", "\xF4", "\xF4\x8F", "\xF4\x8F\xBF", "abc\xC3", "\u20AC\xE2", "\U0001F600\xF0\x9F\x98",
	}
}

func allTexts() []string {
	out := append(rightTexts(), wrongTexts()...)
	return append(out, shortTexts()...)
}

// chance tells numbers that look like chance but are the same in each run.
type chance uint64

func (c *chance) next(n int) int {
	*c ^= *c << 13
	*c ^= *c >> 7
	*c ^= *c << 17
	return int((uint64(*c) >> 11) % uint64(n))
}

// text is one of up to n parts, most of them right.
func (c *chance) text(n int) string {
	parts, edges := allTexts(), edgeBytes()
	var out strings.Builder
	for range c.next(n + 1) {
		switch c.next(8) {
		case 0:
			out.WriteByte(edges[c.next(len(edges))])
		case 1:
			out.WriteString(parts[c.next(len(parts))])
		default:
			out.WriteString(string(rune(c.next(utf8.MaxRune + 1))))
		}
	}
	return out.String()
}

// checkPlace asks for just a place and an error.
func checkPlace(t *testing.T, what, s string, at int, e api.Errno, wantAt int, want api.Errno) {
	t.Helper()
	if at != wantAt || e != want {
		t.Fatalf("%s of % X: %d, %v, want %d, %v", what, s, at, e, wantAt, want)
	}
}
