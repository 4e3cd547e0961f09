package pack_test

import (
	"unicode/utf8"

	"glossator/api"
)

// inBytes are the lowest bytes of n, the highest first.
func inBytes(n uint64, count int) string {
	if count == 0 {
		return ""
	}
	return inBytes(n>>8, count-1) + string([]byte{byte(n)})
}

func one(first byte) string { return string([]byte{first}) }

// wantEncode is the item of v, which is right and which MessagePack says, by the
// document's words.
func wantEncode(v api.Value) string {
	switch v.K {
	case api.KNull:
		return "\xC0"
	case api.KBool:
		return []string{"\xC2", "\xC3"}[v.N]
	case api.KInt:
		if v.Neg {
			return wantBelow(-1 - int64(v.N))
		}
		return wantWhole(v.N)
	case api.KF32:
		return "\xCA" + inBytes(v.N, 4)
	case api.KF64:
		return "\xCB" + inBytes(v.N, 8)
	case api.KBytes:
		return wantLength(len(v.S), "\xC4", "\xC5", "\xC6") + v.S
	case api.KText:
		if len(v.S) <= 31 {
			return one(0xA0+byte(len(v.S))) + v.S
		}
		return wantLength(len(v.S), "\xD9", "\xDA", "\xDB") + v.S
	case api.KExt:
		for first, n := range map[string]int{"\xD4": 1, "\xD5": 2, "\xD6": 4, "\xD7": 8, "\xD8": 16} {
			if n == len(v.S) {
				return first + one(byte(v.N)) + v.S
			}
		}
		return wantLength(len(v.S), "\xC7", "\xC8", "\xC9") + one(byte(v.N)) + v.S
	}
	inside := make([]byte, 0, len(v.L))
	for _, x := range v.L {
		inside = append(inside, wantEncode(x)...)
	}
	if v.K == api.KMap {
		return wantCount(len(v.L)/2, 0x80, "\xDE", "\xDF") + string(inside)
	}
	return wantCount(len(v.L), 0x90, "\xDC", "\xDD") + string(inside)
}

func wantWhole(n uint64) string {
	switch {
	case n <= 0x7F:
		return one(byte(n))
	case n <= 0xFF:
		return "\xCC" + inBytes(n, 1)
	case n <= 0xFFFF:
		return "\xCD" + inBytes(n, 2)
	case n <= 0xFFFFFFFF:
		return "\xCE" + inBytes(n, 4)
	}
	return "\xCF" + inBytes(n, 8)
}

func wantBelow(n int64) string {
	switch {
	case n >= -32:
		return one(byte(256 + n))
	case n >= -128:
		return "\xD0" + inBytes(uint64(n), 1)
	case n >= -32768:
		return "\xD1" + inBytes(uint64(n), 2)
	case n >= -2147483648:
		return "\xD2" + inBytes(uint64(n), 4)
	}
	return "\xD3" + inBytes(uint64(n), 8)
}

// wantLength is one of the first bytes, for 1, 2 and 4 bytes, and the length.
func wantLength(n int, first1, first2, first4 string) string {
	switch {
	case n <= 255:
		return first1 + inBytes(uint64(n), 1)
	case n <= 65535:
		return first2 + inBytes(uint64(n), 2)
	}
	return first4 + inBytes(uint64(n), 4)
}

func wantCount(n int, few byte, first2, first4 string) string {
	switch {
	case n <= 15:
		return one(few + byte(n))
	case n <= 65535:
		return first2 + inBytes(uint64(n), 2)
	}
	return first4 + inBytes(uint64(n), 4)
}

// scan reads byte by byte, by the document's words. An error that is found is
// kept, and all behind it goes on with nothing.
type scan struct {
	b     []byte
	l     api.Limits
	at    int
	count int // the values so far
	place int
	e     api.Errno
}

func wantDecode(b []byte, l api.Limits) (api.Value, int, api.Errno) {
	if l.Depth < 0 || l.Depth > 64 || l.Size < 0 || l.Size > 1048576 {
		return api.Value{}, 0, api.ErrArg
	}
	s := scan{b: b, l: l}
	v := s.item(0)
	switch {
	case s.e != api.OK:
		return api.Value{}, s.place, s.e
	case s.at == len(b):
		return v, len(b), api.OK
	case s.at == l.Size:
		return api.Value{}, l.Size, api.ErrLimit
	}
	return api.Value{}, s.at, api.ErrForm
}

func (s *scan) fail(place int, e api.Errno) {
	if s.e == api.OK {
		s.place, s.e = place, e
	}
}

// next is the next byte; 0, if there is none to look at.
func (s *scan) next() byte {
	switch {
	case s.e != api.OK:
		return 0
	case s.at == len(s.b):
		s.fail(s.at, api.ErrShort)
		return 0
	case s.at == s.l.Size:
		s.fail(s.at, api.ErrLimit)
		return 0
	}
	s.at++
	return s.b[s.at-1]
}

// number is that of the next bytes.
func (s *scan) number(count int) uint64 {
	n := uint64(0)
	for range count {
		n = n*256 + uint64(s.next())
	}
	return n
}

// value tells that a value begins or is whole, which has the place.
func (s *scan) value(place int) {
	if s.count++; s.count > 65536 {
		s.fail(place, api.ErrLimit)
	}
}

// room refuses a head of which what follows ends behind the place l.Size.
func (s *scan) room(place int, n uint64) {
	if n > uint64(s.l.Size) || uint64(s.at)+n > uint64(s.l.Size) {
		s.fail(place, api.ErrLimit)
	}
}

// item is one in so many parts.
func (s *scan) item(parts int) api.Value {
	place := s.at
	first := s.next()
	switch {
	case s.e != api.OK:
		return api.Value{}
	case first <= 0x7F:
		return s.leaf(place, whole(uint64(first)))
	case first <= 0x8F:
		return s.many(place, parts, api.KMap, uint64(first-0x80))
	case first <= 0x9F:
		return s.many(place, parts, api.KList, uint64(first-0x90))
	case first <= 0xBF:
		return s.text(place, uint64(first-0xA0))
	case first >= 0xE0:
		return s.leaf(place, below(uint64(0xFF-first)))
	}
	return s.marked(place, parts, first)
}

// marked is an item of a first byte from C0 to DF.
func (s *scan) marked(place, parts int, first byte) api.Value {
	switch first {
	case 0xC0:
		return s.leaf(place, null())
	case 0xC1:
		s.fail(place, api.ErrForm)
		return api.Value{}
	case 0xC2:
		return s.leaf(place, truth(0))
	case 0xC3:
		return s.leaf(place, truth(1))
	case 0xC4, 0xC5, 0xC6:
		return s.raw(place, s.number(1<<(first-0xC4)))
	case 0xC7, 0xC8, 0xC9:
		return s.ext(place, s.number(1<<(first-0xC7)))
	case 0xCA:
		return s.leaf(place, f32(s.number(4)))
	case 0xCB:
		return s.leaf(place, f64(s.number(8)))
	case 0xCC, 0xCD, 0xCE, 0xCF:
		return s.leaf(place, whole(s.number(1<<(first-0xCC))))
	case 0xD0:
		return s.leaf(place, wantSigned(int64(int8(s.number(1)))))
	case 0xD1:
		return s.leaf(place, wantSigned(int64(int16(s.number(2)))))
	case 0xD2:
		return s.leaf(place, wantSigned(int64(int32(s.number(4)))))
	case 0xD3:
		return s.leaf(place, wantSigned(int64(s.number(8))))
	case 0xD4, 0xD5, 0xD6, 0xD7, 0xD8:
		return s.ext(place, 1<<(first-0xD4))
	case 0xD9, 0xDA, 0xDB:
		return s.text(place, s.number(1<<(first-0xD9)))
	case 0xDC:
		return s.many(place, parts, api.KList, s.number(2))
	case 0xDD:
		return s.many(place, parts, api.KList, s.number(4))
	case 0xDE:
		return s.many(place, parts, api.KMap, s.number(2))
	}
	return s.many(place, parts, api.KMap, s.number(4))
}

func wantSigned(n int64) api.Value {
	if n < 0 {
		return below(uint64(-(n + 1)))
	}
	return whole(uint64(n))
}

func (s *scan) leaf(place int, v api.Value) api.Value {
	s.value(place)
	return v
}

func (s *scan) raw(place int, n uint64) api.Value {
	s.room(place, n)
	return s.leaf(place, raw(s.stretch(n, false)))
}

func (s *scan) text(place int, n uint64) api.Value {
	s.room(place, n)
	return s.leaf(place, text(s.stretch(n, true)))
}

func (s *scan) ext(place int, n uint64) api.Value {
	s.room(place, n+1)
	kind := s.next()
	return s.leaf(place, ext(uint64(kind), s.stretch(n, false)))
}

func (s *scan) many(place, parts, kind int, n uint64) api.Value {
	if kind == api.KMap {
		n *= 2
	}
	s.value(place)
	if parts+1 > s.l.Depth {
		s.fail(place, api.ErrLimit)
	}
	s.room(place, n)
	var l []api.Value
	for i := uint64(0); i < n && s.e == api.OK; i++ {
		l = append(l, s.item(parts+1))
	}
	return api.Value{K: kind, L: l}
}

// stretch is n bytes.
func (s *scan) stretch(n uint64, isText bool) string {
	var out, point []byte
	for i := uint64(0); i < n && s.e == api.OK; i++ {
		x := s.next()
		if s.e != api.OK {
			break
		}
		out = append(out, x)
		if isText {
			point = append(point, x)
			if missing := missingOf(point); missing < 0 || uint64(missing) > n-i-1 {
				s.fail(s.at-1, api.ErrForm)
			} else if missing == 0 {
				point = nil
			}
		}
	}
	return string(out)
}

// missingOf is how many bytes are missing of a code point that begins with b;
// below 0, if none does.
func missingOf(b []byte) int {
	switch {
	case utf8.Valid(b):
		return 0
	case utf8.FullRune(b):
		return -1
	case b[0] < 0xE0:
		return 2 - len(b)
	case b[0] < 0xF0:
		return 3 - len(b)
	}
	return 4 - len(b)
}
