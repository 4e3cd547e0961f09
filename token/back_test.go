package token_test

import (
	"slices"
	"strings"
	"testing"

	"glossator/api"
	"glossator/token"
)

// checkRow asks for tokens that stand one behind the other, with blanks alone
// between and around them, each of which is the one that Next tells at the end
// of that ahead of it.
func checkRow(t *testing.T, s string) {
	t.Helper()
	list, place, e := token.List(s)
	if e != api.OK || place != len(s) {
		t.Fatalf("List(%+q): %d, %v", s, place, e)
	}
	at := 0
	for _, one := range list {
		if one.From < at || one.To <= one.From || one.To > len(s) || strings.Trim(s[at:one.From], "\t\n\r ") != "" {
			t.Fatalf("List(%+q): %+v behind %d", s, one, at)
		}
		checkNext(t, s, at, one, one.To, api.OK)
		checkNext(t, s, one.From, one, one.To, api.OK)
		// The token alone is the same one.
		alone := token.Token{Kind: one.Kind, To: one.To - one.From, Text: one.Text}
		checkNext(t, s[one.From:one.To], 0, alone, alone.To, api.OK)
		at = one.To
	}
	if strings.Trim(s[at:], "\t\n\r ") != "" {
		t.Fatalf("List(%+q): %+q behind the last token", s, s[at:])
	}
	checkNext(t, s, at, token.Token{From: len(s), To: len(s)}, len(s), api.OK)
}

// aloneEach tells the tokens of texts that are laid one behind the other.
func aloneEach(parts []string) []token.Token {
	var out []token.Token
	at := 0
	for _, part := range parts {
		if strings.Trim(part, "\t\n\r ") != "" {
			out = append(out, wantToken(strings.Repeat(" ", at)+part, at, at+len(part)))
		}
		at += len(part)
	}
	return out
}

// TestRows: tokens with blanks between them are those that were laid there.
func TestRows(t *testing.T) {
	c := chance(142)
	for range 5000 {
		parts := []string{c.blanks()}
		for range c.below(10) {
			parts = append(parts, c.oneOf(wholes()), c.blanks()+[]string{"\t", "\n", "\r", " "}[c.below(4)])
		}
		s := strings.Join(parts, "")
		checkList(t, s, aloneEach(parts), len(s), api.OK)
		checkRow(t, s)
	}
}

// TestRowsOfAny: whatever List takes is such a row.
func TestRowsOfAny(t *testing.T) {
	c := chance(143)
	taken := 0
	for range 30000 {
		s := c.blanks()
		for range 1 + c.below(6) {
			s += c.oneOf(wholes()) + c.blanks()
		}
		s = c.changed(s)
		if _, _, e := token.List(s); e == api.OK {
			taken++
			checkRow(t, s)
		}
	}
	if taken < 5000 {
		t.Fatalf("List took %d texts", taken)
	}
}

// TestListIsNew: a list that was answered holds no part of another.
func TestListIsNew(t *testing.T) {
	const s = `{"a":[1,null]}`
	first, _, _ := token.List(s)
	kept := slices.Clone(first)
	for place := range first {
		first[place] = token.Token{Kind: 'x', From: -1, To: -1, Text: "x"}
	}
	second, _, e := token.List(s)
	if !slices.Equal(second, kept) || e != api.OK {
		t.Fatalf("List(%s), again: %+v, %v", s, second, e)
	}
}
