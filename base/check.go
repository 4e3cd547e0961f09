package base

// check tells whether s is what some bytes have, or else the place where it is
// not.
func (a alphabet) check(s string) (int, bool) {
	letters := a.ahead(s)
	for i := range len(letters) {
		if a.count(letters[i]) < 0 {
			return i, false
		}
	}
	n := len(letters)
	size := a.bytes(n)
	if a.letters(size) != n {
		return n, false
	}
	if n > 0 && a.count(letters[n-1])&(1<<a.lacking(size)-1) != 0 {
		return n - 1, false
	}
	if s[n:] != filler[:a.fill(size)] {
		return n, false
	}
	return 0, true
}
