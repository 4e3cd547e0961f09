package head

import "glossator/api"

// check tells whether a head begins b, or else where and how b errs.
func check(b []byte) (int, api.Errno) {
	if len(b) == 0 {
		return 0, api.ErrShort
	}
	major, info := split(b[0])
	s := sizeBehind(info)
	switch {
	case s == noSize:
		fallthrough
	case info == open && !canBeOpen(major):
		return 0, api.ErrForm
	case major == others && s == inOne && len(b) > 1 && b[1] < leastBehind:
		return 1, api.ErrForm
	case len(b) <= s.length():
		return len(b), api.ErrShort
	}
	return 0, api.OK
}

// number tells the number of a head: its info, or what the bytes behind the
// first say.
func number(info int, behind []byte) uint64 {
	switch {
	case info == open:
		return 0
	case len(behind) == 0:
		return uint64(info)
	}
	n := uint64(0)
	for _, b := range behind {
		n = n<<8 | uint64(b)
	}
	return n
}
