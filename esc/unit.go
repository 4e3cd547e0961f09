package esc

import (
	"glossator/api"
	"glossator/utf"
)

// Codes that are no code points, but halves of pairs: a first one and a second
// one are one code point from firstPaired on.
const (
	firstHalf   = 0xD800
	secondHalf  = 0xDC00
	lastHalf    = 0xDFFF
	firstPaired = 0x10000
)

const (
	unitHead = `\u`
	unitSize = len(unitHead) + 4
)

// readPoint goes over a code point that is told by its digits.
func readPoint(s string, say func(string)) (int, api.Errno) {
	point, size, e := readUnit(s, false)
	if e == api.OK && firstHalf <= point && point < secondHalf {
		second, more, e2 := readUnit(s[size:], true)
		point = firstPaired + (point-firstHalf)<<10 + (second - secondHalf)
		size, e = size+more, e2
	}
	if e == api.OK {
		say(utf.Encode(point))
	}
	return size, e
}

// readUnit tells the code of the four digits at the beginning of s, and their
// size with what stands ahead of them, or where and how it errs. It is to be
// the second half of a pair, or is to be none.
func readUnit(s string, second bool) (int, int, api.Errno) {
	code := 0
	for i := range min(len(s), unitSize) {
		if i < len(unitHead) {
			if s[i] != unitHead[i] {
				return 0, i, api.ErrForm
			}
			continue
		}
		value, ok := digit(s[i])
		code = code<<4 | value
		if !ok || !fits(code, 4*(unitSize-1-i), second) {
			return 0, i, api.ErrForm
		}
	}
	if len(s) < unitSize {
		return 0, len(s), api.ErrShort
	}
	return code, unitSize, api.OK
}

// fits tells whether any code that goes on from this one by so many bits is
// the second half of a pair, or is none.
func fits(code, bits int, second bool) bool {
	lowest := code << bits
	highest := lowest | (1<<bits - 1)
	if second {
		return lowest <= lastHalf && highest >= secondHalf
	}
	return lowest < secondHalf || highest > lastHalf
}

// digit tells what the digit b counts in base 16, if it is one.
func digit(b byte) (int, bool) {
	switch {
	case '0' <= b && b <= '9':
		return int(b - '0'), true
	case 'a' <= b && b <= 'f':
		b -= 'a' - 'A'
		fallthrough
	case 'A' <= b && b <= 'F':
		return int(b-'A') + 10, true
	}
	return 0, false
}
