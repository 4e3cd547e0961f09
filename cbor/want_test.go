package cbor_test

import (
	"unicode/utf8"

	"glossator/api"
)

// wantHead is the head of n with the fewest bytes.
func wantHead(major int, n uint64) string {
	first := byte(major * 32)
	switch {
	case n < 24:
		return string([]byte{first + byte(n)})
	case n < 1<<8:
		return string([]byte{first + 24, byte(n)})
	case n < 1<<16:
		return string([]byte{first + 25}) + inBytes(n, 2)
	case n < 1<<32:
		return string([]byte{first + 26}) + inBytes(n, 4)
	}
	return string([]byte{first + 27}) + inBytes(n, 8)
}

// inBytes are the lowest bytes of n, the highest first.
func inBytes(n uint64, count int) string {
	if count == 0 {
		return ""
	}
	return inBytes(n>>8, count-1) + string([]byte{byte(n)})
}

// wantEncode is the item of v, which is right and has no KExt, by the document's
// words.
func wantEncode(v api.Value, open bool) string {
	switch v.K {
	case api.KNull:
		return "\xF6"
	case api.KUndef:
		return "\xF7"
	case api.KBool:
		return []string{"\xF4", "\xF5"}[v.N]
	case api.KSimple:
		return wantHead(7, v.N)
	case api.KInt:
		if v.Neg {
			return wantHead(1, v.N)
		}
		return wantHead(0, v.N)
	case api.KF16:
		return "\xF9" + inBytes(v.N, 2)
	case api.KF32:
		return "\xFA" + inBytes(v.N, 4)
	case api.KF64:
		return "\xFB" + inBytes(v.N, 8)
	case api.KBig:
		if v.Neg {
			return "\xC3" + wantEncode(raw(v.S), open)
		}
		return "\xC2" + wantEncode(raw(v.S), open)
	case api.KBytes:
		return wantStretch(2, "\x5F", v.S, open)
	case api.KText:
		return wantStretch(3, "\x7F", v.S, open)
	case api.KTag:
		return wantHead(6, v.N) + wantEncode(v.L[0], open)
	}
	inside := make([]byte, 0, len(v.L))
	for _, x := range v.L {
		inside = append(inside, wantEncode(x, open)...)
	}
	switch {
	case v.K == api.KList && open:
		return "\x9F" + string(inside) + "\xFF"
	case v.K == api.KMap && open:
		return "\xBF" + string(inside) + "\xFF"
	case v.K == api.KMap:
		return wantHead(5, uint64(len(v.L)/2)) + string(inside)
	}
	return wantHead(4, uint64(len(v.L))) + string(inside)
}

func wantStretch(major int, first, s string, open bool) string {
	switch {
	case !open:
		return wantHead(major, uint64(len(s))) + s
	case s == "":
		return first + "\xFF"
	}
	return first + wantHead(major, uint64(len(s))) + s + "\xFF"
}

// scan reads byte by byte, by the document's words. An error that is found is
// kept, and all behind it goes on with nothing.
type scan struct {
	b     []byte
	l     api.Limits
	at    int
	count int // the values so far
	place int
	e     api.Errno
}

func wantDecode(b []byte, l api.Limits) (api.Value, int, api.Errno) {
	if l.Depth < 0 || l.Depth > 64 || l.Size < 0 || l.Size > 1048576 {
		return api.Value{}, 0, api.ErrArg
	}
	s := scan{b: b, l: l}
	v := s.item(0, s.next(), false)
	switch {
	case s.e != api.OK:
		return api.Value{}, s.place, s.e
	case s.at == len(b):
		return v, len(b), api.OK
	case s.at == l.Size:
		return api.Value{}, l.Size, api.ErrLimit
	}
	return api.Value{}, s.at, api.ErrForm
}

func (s *scan) fail(place int, e api.Errno) {
	if s.e == api.OK {
		s.place, s.e = place, e
	}
}

// next is the next byte; 0, if there is none to look at.
func (s *scan) next() byte {
	switch {
	case s.e != api.OK:
		return 0
	case s.at == len(s.b):
		s.fail(s.at, api.ErrShort)
		return 0
	case s.at == s.l.Size:
		s.fail(s.at, api.ErrLimit)
		return 0
	}
	s.at++
	return s.b[s.at-1]
}

// number is that of a head, of which the first byte is read.
func (s *scan) number(first byte) uint64 {
	info := first % 32
	if info < 24 || info == 31 {
		return uint64(info)
	}
	n := uint64(0)
	for range 1 << (info - 24) {
		n = n*256 + uint64(s.next())
	}
	if first == 0xF8 && n < 32 {
		s.fail(s.at-1, api.ErrForm)
	}
	return n
}

// value tells that a value begins or stands at a place, in so many parts, which
// has others within it or is deep for another cause.
func (s *scan) value(place, parts int, deep bool) {
	s.count++
	if deep && parts+1 > s.l.Depth || s.count > 65536 {
		s.fail(place, api.ErrLimit)
	}
}

// room refuses a head of which what follows ends behind the place l.Size.
func (s *scan) room(place int, n uint64, each uint64) {
	if s.e == api.OK && n > 1<<21 || uint64(s.at)+n*each > uint64(s.l.Size) {
		s.fail(place, api.ErrLimit)
	}
}

// item is one in so many parts; its first byte is read. inBig: a tag 2 or 3 is
// what it stands in.
func (s *scan) item(parts int, first byte, inBig bool) api.Value {
	place := s.at - 1
	if s.e != api.OK {
		return api.Value{}
	}
	if first%32 >= 28 && first%32 <= 30 || first == 0x1F || first == 0x3F || first == 0xDF || first == 0xFF {
		s.fail(place, api.ErrForm)
		return api.Value{}
	}
	n := s.number(first)
	if s.e != api.OK {
		return api.Value{}
	}
	switch first / 32 {
	case 2:
		v := api.Value{K: api.KBytes, S: s.stretch(place, first, n)}
		if s.e == api.OK && !(inBig && wantBig(v.S)) {
			s.value(place, parts, false)
		}
		return v
	case 3:
		v := api.Value{K: api.KText, S: s.stretch(place, first, n)}
		if s.e == api.OK {
			s.value(place, parts, false)
		}
		return v
	case 4:
		s.value(place, parts, true)
		return api.Value{K: api.KList, L: s.many(place, parts, first, n, 1)}
	case 5:
		s.value(place, parts, true)
		return api.Value{K: api.KMap, L: s.many(place, parts, first, n, 2)}
	case 6:
		s.value(place, parts, true)
		isBig := n == 2 || n == 3
		x := s.item(parts+1, s.next(), isBig)
		if isBig && x.K == api.KBytes && wantBig(x.S) {
			return api.Value{K: api.KBig, Neg: n == 3, S: x.S}
		}
		return api.Value{K: api.KTag, N: n, L: []api.Value{x}}
	}
	s.value(place, parts, false)
	return wantSingle(first, n)
}

// wantSingle is the value of a head that is all of its item.
func wantSingle(first byte, n uint64) api.Value {
	switch {
	case first < 0x20:
		return whole(n)
	case first < 0x40:
		return below(n)
	case first == 0xF4 || first == 0xF5:
		return api.Value{K: api.KBool, N: uint64(first - 0xF4)}
	case first == 0xF6:
		return null()
	case first == 0xF7:
		return api.Value{K: api.KUndef}
	case first == 0xF9:
		return api.Value{K: api.KF16, N: n}
	case first == 0xFA:
		return api.Value{K: api.KF32, N: n}
	case first == 0xFB:
		return api.Value{K: api.KF64, N: n}
	}
	return simple(n)
}

func (s *scan) many(place, parts int, first byte, n uint64, each int) []api.Value {
	var out []api.Value
	if first%32 == 31 {
		for x := s.next(); x != 0xFF && s.e == api.OK; x = s.next() {
			out = append(out, s.item(parts+1, x, false))
			if each == 2 {
				out = append(out, s.item(parts+1, s.next(), false))
			}
		}
		return out
	}
	s.room(place, n, uint64(each))
	for i := uint64(0); i < n*uint64(each) && s.e == api.OK; i++ {
		out = append(out, s.item(parts+1, s.next(), false))
	}
	return out
}

func (s *scan) stretch(place int, first byte, n uint64) string {
	if first%32 != 31 {
		return s.piece(place, first/32 == 3, n)
	}
	out := ""
	for x := s.next(); x != 0xFF && s.e == api.OK; x = s.next() {
		pieceAt := s.at - 1
		if x/32 != first/32 || x%32 > 27 {
			s.fail(pieceAt, api.ErrForm)
		}
		out += s.piece(pieceAt, first/32 == 3, s.number(x))
	}
	return out
}

func (s *scan) piece(place int, isText bool, n uint64) string {
	s.room(place, n, 1)
	var out, point []byte
	for i := uint64(0); i < n && s.e == api.OK; i++ {
		x := s.next()
		if s.e != api.OK {
			break
		}
		out = append(out, x)
		if isText {
			point = append(point, x)
			if missing := missingOf(point); missing < 0 || uint64(missing) > n-i-1 {
				s.fail(s.at-1, api.ErrForm)
			} else if missing == 0 {
				point = nil
			}
		}
	}
	return string(out)
}

// missingOf is how many bytes are missing of a code point that begins with b;
// below 0, if none does.
func missingOf(b []byte) int {
	switch {
	case utf8.Valid(b):
		return 0
	case utf8.FullRune(b):
		return -1
	case b[0] < 0xE0:
		return 2 - len(b)
	case b[0] < 0xF0:
		return 3 - len(b)
	}
	return 4 - len(b)
}
