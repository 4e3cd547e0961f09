package head

import "glossator/api"

// write tells the head of n in the size.
func write(major int, n uint64, s size) ([]byte, api.Errno) {
	if e := refusal(major, n, s); e != api.OK {
		return nil, e
	}
	out := []byte{join(major, s.info(n))}
	for left := s.length() - 1; left >= 0; left-- {
		out = append(out, byte(n>>(8*left)))
	}
	return out, api.OK
}

// refusal tells why there is no head of n in the size.
func refusal(major int, n uint64, s size) api.Errno {
	switch {
	case major < whole || major > others:
		fallthrough
	case s == noSize:
		fallthrough
	case n > s.greatest():
		fallthrough
	case major == others && s > inOne: // there are floats
		fallthrough
	case major == others && s == inOne && n < leastBehind:
		return api.ErrArg
	}
	return api.OK
}
