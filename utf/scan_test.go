package utf_test

import (
	"strings"
	"testing"

	"glossator/api"
	"glossator/utf"
)

// feedAll feeds the pieces and closes, up to the first error, as a caller does.
func feedAll(s *utf.Scan, pieces ...string) api.Errno {
	for _, p := range pieces {
		if e := s.Feed([]byte(p)); e != api.OK {
			return e
		}
	}
	return s.Close()
}

// checkPieces asks for what Check tells of all pieces together.
func checkPieces(t *testing.T, pieces ...string) {
	t.Helper()
	whole := strings.Join(pieces, "")
	s := utf.New()
	e := feedAll(s, pieces...)
	wantAt, want := utf.Check(whole)
	if s.At() != wantAt || e != want {
		t.Fatalf("pieces % X: %d, %v, want %d, %v", pieces, s.At(), e, wantAt, want)
	}
	wantAt, want = wantCheck(whole)
	checkPlace(t, "a scan", whole, s.At(), e, wantAt, want)
}

// TestScanOfPieces: a scan tells what Check tells, however the text is cut.
func TestScanOfPieces(t *testing.T) {
	for _, s := range allTexts() {
		checkPieces(t, s)
		checkPieces(t, strings.Split(s, "")...)
		single := []string{""}
		for i := range len(s) {
			single = append(single, s[i:i+1], "")
		}
		checkPieces(t, single...)
		for i := range len(s) + 1 {
			checkPieces(t, s[:i], s[i:])
			for j := i; j <= len(s); j++ {
				checkPieces(t, s[:i], s[i:j], s[j:])
				checkPieces(t, s[:i], "", s[i:j], "", "", s[j:], "")
			}
		}
	}
}

func TestScanOfEachText(t *testing.T) {
	eachText(func(s string) {
		half := len(s) / 2
		checkPieces(t, s[:half], s[half:])
	})
	c := chance(521288629)
	for range 2000 {
		s := c.text(10)
		var pieces []string
		for rest := s; rest != ""; {
			n := min(1+c.next(5), len(rest))
			pieces, rest = append(pieces, rest[:n]), rest[n:]
		}
		checkPieces(t, pieces...)
	}
}

// TestFeedTellsAtOnce: an error comes with its byte, not with a later one, and
// a place with each call.
func TestFeedTellsAtOnce(t *testing.T) {
	for _, text := range allTexts() {
		s := utf.New()
		if s.At() != 0 {
			t.Fatalf("a new scan is at %d", s.At())
		}
		for i := range len(text) {
			wantAt, want := wantCheck(text[:i+1])
			if want == api.ErrShort {
				want = api.OK // not before Close
			}
			e := s.Feed([]byte(text[i : i+1]))
			checkPlace(t, "Feed", text[:i+1], s.At(), e, wantAt, want)
			if e != api.OK {
				break
			}
		}
	}
}

// checkEnded asks a scan that has ended at a place for the same, whatever comes.
func checkEnded(t *testing.T, s *utf.Scan, at int) {
	t.Helper()
	for range 2 {
		for _, b := range [][]byte{nil, {}, []byte("a"), {0x80}, {0xAC}, {0xFF}, []byte("\u20AC")} {
			if e := s.Feed(b); e != api.ErrState || s.At() != at {
				t.Fatalf("Feed of % X behind the end: %v at %d, want %v at %d", b, e, s.At(), api.ErrState, at)
			}
		}
		if e := s.Close(); e != api.ErrState || s.At() != at {
			t.Fatalf("Close behind the end: %v at %d, want %v at %d", e, s.At(), api.ErrState, at)
		}
	}
}

func TestScanBehindItsEnd(t *testing.T) {
	for _, text := range allTexts() {
		s := utf.New()
		want, _ := wantCheck(text)
		feedAll(s, text)
		checkEnded(t, s, want)
	}
	s := utf.New()
	if e := s.Close(); e != api.OK || s.At() != 0 {
		t.Errorf("Close of an empty text: %v at %d", e, s.At())
	}
	checkEnded(t, s, 0)
	s = utf.New()
	first, second := s.Feed([]byte("ab\xE2\x82")), s.Feed([]byte("\xAC\xC3"))
	if first != api.OK || second != api.OK || s.At() != 6 {
		t.Errorf("Feed: %v, %v at %d", first, second, s.At())
	}
	if e := s.Close(); e != api.ErrShort || s.At() != 6 {
		t.Errorf("Close within a code point: %v at %d", e, s.At())
	}
	checkEnded(t, s, 6)
	s = utf.New()
	first, second = s.Feed([]byte("ab\xC3")), s.Feed([]byte("\x28\xA4xyz"))
	if first != api.OK || second != api.ErrForm || s.At() != 3 {
		t.Errorf("Feed: %v, %v at %d", first, second, s.At())
	}
	checkEnded(t, s, 3)
}

func TestScanThatNoCallMade(t *testing.T) {
	var zero utf.Scan
	for name, s := range map[string]*utf.Scan{"nil": nil, "zero": &zero, "new": new(utf.Scan)} {
		for range 2 {
			for _, b := range [][]byte{nil, {}, []byte("a"), {0xFF}, {0xE2}} {
				if e := s.Feed(b); e != api.ErrZero || s.At() != 0 {
					t.Errorf("Feed of % X of a %s scan: %v at %d", b, name, e, s.At())
				}
			}
			if e := s.Close(); e != api.ErrZero || s.At() != 0 {
				t.Errorf("Close of a %s scan: %v at %d", name, e, s.At())
			}
		}
	}
}

// TestScansAreApart: no scan hangs on another, nor on the bytes once they are
// fed, and these stay as they are.
func TestScansAreApart(t *testing.T) {
	one, other := utf.New(), utf.New()
	b := []byte("a\xE2")
	if e := one.Feed(b); e != api.OK || string(b) != "a\xE2" {
		t.Fatalf("Feed: %v, the bytes % X", e, b)
	}
	b[0], b[1] = 0xFF, 0xFF
	if e := other.Feed([]byte("\xF0\x9F")); e != api.OK || other.At() != 2 || one.At() != 2 {
		t.Errorf("the other's Feed: %v at %d, the first at %d", e, other.At(), one.At())
	}
	if e := one.Feed([]byte("\x82\xAC")); e != api.OK || one.At() != 4 {
		t.Errorf("the first's Feed: %v at %d", e, one.At())
	}
	if e := other.Feed([]byte("\x82\xAC")); e != api.OK || other.Close() != api.OK || other.At() != 4 {
		t.Errorf("the other's Feed: %v at %d", e, other.At())
	}
	if e := one.Close(); e != api.OK || one.At() != 4 {
		t.Errorf("the first's Close: %v at %d", e, one.At())
	}
}
