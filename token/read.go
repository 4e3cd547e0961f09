package token

import (
	"strings"

	"glossator/api"
	"glossator/esc"
	"glossator/num"
)

// read tells the token at the beginning of s, but for its places, and how many
// bytes it has, or where and how s errs.
func read(s string) (Token, int, api.Errno) {
	if s == "" {
		return Token{Kind: kindEnd}, 0, api.OK
	}
	first, whole := s[0], s[:1]
	switch first {
	case 'n', 't', 'f':
		// A word is a sign that has more bytes.
		whole = wordOf(first)
		fallthrough
	case '[', ']', '{', '}', ':', ',':
		size, e := follow(s, whole)
		return Token{Kind: first}, size, e
	case '"':
		text, size, e := esc.Scan(s)
		return Token{Kind: kindString, Text: text}, size, e
	}
	size, e := num.Scan(s)
	// A copy, so that the number does not keep all of s.
	return Token{Kind: kindNumber, Text: strings.Clone(s[:size])}, size, e
}

// wordOf tells the word that begins with the letter first.
func wordOf(first byte) string {
	switch first {
	case 'n':
		return "null"
	case 't':
		return "true"
	}
	return "false"
}

// follow tells how many bytes the token whole has at the beginning of s, or
// where and how s errs.
func follow(s, whole string) (int, api.Errno) {
	for at := range len(whole) {
		switch {
		case at == len(s):
			return at, api.ErrShort
		case s[at] != whole[at]:
			return at, api.ErrForm
		}
	}
	return len(whole), api.OK
}
