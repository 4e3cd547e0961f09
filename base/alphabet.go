package base

import "strings"

const (
	byteBits = 8

	upper  = "ABCDEFGHIJKLMNOPQRSTUVWXYZ"
	lower  = "abcdefghijklmnopqrstuvwxyz"
	digits = "0123456789"

	hexSigns = digits + "abcdef"
	b64Signs = upper + lower + digits + "+/"
	u64Signs = upper + lower + digits + "-_"
	b32Signs = upper + "234567"

	// As many as ever fill up.
	filler = "======"
)

// alphabet is how bytes are written by the letters of a kind.
type alphabet struct {
	// signs stand in the order of what they count.
	signs string
	// bits are those that one letter stands for.
	bits int
	// group is a number to a multiple of which letters are filled up.
	group int
}

// alphabetOf tells the alphabet of a kind, if it is one.
func alphabetOf(kind int) (alphabet, bool) {
	all := [...]alphabet{
		Hex: {hexSigns, 4, 1},
		B64: {b64Signs, 6, 4},
		U64: {u64Signs, 6, 1},
		B32: {b32Signs, 5, 8},
	}
	if kind < 0 || kind >= len(all) {
		return alphabet{}, false
	}
	return all[kind], true
}

// count tells what a letter counts: below 0, if it is none.
func (a alphabet) count(letter byte) int {
	return strings.IndexByte(a.signs, letter)
}

// letters tells how many letters n bytes have, without those that fill up.
func (a alphabet) letters(n int) int {
	return (n*byteBits + a.bits - 1) / a.bits
}

// lacking tells how many bits the last letter of n bytes lacks.
func (a alphabet) lacking(n int) int {
	return a.letters(n)*a.bits - n*byteBits
}

// fill tells how many = fill up the letters of n bytes.
func (a alphabet) fill(n int) int {
	return (a.group - a.letters(n)%a.group) % a.group
}

// bytes tells how many whole bytes n letters stand for.
func (a alphabet) bytes(n int) int {
	return n * a.bits / byteBits
}

// ahead tells what stands ahead of what fills up, and all where nothing may.
func (a alphabet) ahead(s string) string {
	if a.group == 1 {
		return s
	}
	letters, _, _ := strings.Cut(s, filler[:1])
	return letters
}
