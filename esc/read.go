package esc

import (
	"glossator/api"
	"glossator/utf"
)

// read goes over the quoted string at the beginning of s and says part by part
// what it says. It tells where it ends, or where and how it errs.
func read(s string, say func(string)) (int, api.Errno) {
	if s != "" && s[0] != quote {
		return 0, api.ErrForm
	}
	for at := 1; at < len(s); {
		var size int
		e := api.OK
		switch b := s[at]; {
		case b == quote:
			return at + 1, api.OK
		case b < firstPlain:
			return at, api.ErrForm
		case b == escape:
			size, e = readEscape(s[at:], say)
		default:
			size, e = readPlain(s[at:], say)
		}
		at += size
		if e != api.OK {
			return at, e
		}
	}
	return len(s), api.ErrShort
}

// readPlain goes over the bytes that stand for themselves.
func readPlain(s string, say func(string)) (int, api.Errno) {
	size := 0
	for size < len(s) && s[size] >= firstPlain && s[size] != quote && s[size] != escape {
		size++
	}
	at, e := utf.Check(s[:size])
	if e == api.ErrShort && size < len(s) {
		// No code point goes on by a quote, an escape or a byte below 20.
		e = api.ErrForm
	}
	if e == api.OK {
		say(s[:size])
	}
	return at, e
}

// readEscape goes over the escape at the beginning of s.
func readEscape(s string, say func(string)) (int, api.Errno) {
	if len(s) < 2 {
		return len(s), api.ErrShort
	}
	switch s[1] {
	case 'b':
		say("\b")
	case 'f':
		say("\f")
	case 'n':
		say("\n")
	case 'r':
		say("\r")
	case 't':
		say("\t")
	case 'u':
		return readPoint(s, say)
	case quote:
		fallthrough
	case escape:
		fallthrough
	case '/':
		say(s[1:2])
	default:
		return 1, api.ErrForm
	}
	return 2, api.OK
}
