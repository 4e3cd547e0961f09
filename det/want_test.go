package det_test

import (
	"bytes"
	"math"
	mathbig "math/big"
	"slices"
	"unicode/utf8"

	"glossator/api"
)

// wantPlain is the plain tree of v, which is right and has no KExt, by the
// document's words; or it tells that two keys of a map have the same item.
func wantPlain(v api.Value) (api.Value, bool) {
	allDiffer := true
	var l []api.Value
	for _, x := range v.L {
		p, ok := wantPlain(x)
		allDiffer = allDiffer && ok
		l = append(l, p)
	}
	if !allDiffer {
		return api.Value{}, false
	}
	v.L = l
	switch {
	case v.K == api.KF16 || v.K == api.KF32 || v.K == api.KF64:
		return wantFloat(v), true
	case v.K == api.KTag && (v.N == 2 || v.N == 3) && l[0].K == api.KBytes:
		return wantNumber(v.N, l[0].S), true
	case v.K == api.KMap:
		return wantOrder(v)
	}
	return v, true
}

// wantOrder is a map with each key put ahead of those that have a greater item.
func wantOrder(v api.Value) (api.Value, bool) {
	out := pairs()
	var items [][]byte
	for i := 0; i < len(v.L); i += 2 {
		place, there := slices.BinarySearchFunc(items, item(v.L[i]), bytes.Compare)
		if there {
			return api.Value{}, false
		}
		items = slices.Insert(items, place, item(v.L[i]))
		out.L = slices.Insert(out.L, 2*place, v.L[i], v.L[i+1])
	}
	return out, true
}

// wantNumber is what a tag 2 or 3 of bytes becomes.
func wantNumber(n uint64, s string) api.Value {
	number := new(mathbig.Int).SetBytes([]byte(s))
	switch b := string(number.Bytes()); {
	case number.IsUint64():
		return api.Value{K: api.KInt, Neg: n == 3, N: number.Uint64()}
	case len(b) <= 512:
		return api.Value{K: api.KBig, Neg: n == 3, S: b}
	default:
		return tag(n, raw(b))
	}
}

// wantWide are the bits of width 64 of a float, by the library's floats.
func wantWide(v api.Value) uint64 {
	switch v.K {
	case api.KF16:
		return wantWideHalf(v.N)
	case api.KF32:
		if sign, fraction := v.N>>31, v.N<<41>>41; v.N<<33>>33 > 0x7F800000 {
			return sign<<63 | 0x7FF<<52 | fraction<<29
		}
		return math.Float64bits(float64(math.Float32frombits(uint32(v.N))))
	}
	return v.N
}

func wantWideHalf(n uint64) uint64 {
	sign, exponent, fraction := n>>15<<63, n>>10&0x1F, n&0x3FF
	switch exponent {
	case 0:
		return sign | math.Float64bits(math.Ldexp(float64(fraction), -24))
	case 0x1F:
		return sign | 0x7FF<<52 | fraction<<42
	}
	return sign | math.Float64bits(math.Ldexp(float64(fraction+0x400), int(exponent)-25))
}

// halves are the bits of width 16 by those of width 64.
var halves = allHalves()

func allHalves() map[uint64]uint64 {
	out := map[uint64]uint64{}
	for n := range uint64(1 << 16) {
		out[wantWideHalf(n)] = n
	}
	return out
}

// wantFloat is a float in the least width that has just its bits.
func wantFloat(v api.Value) api.Value {
	wide := wantWide(v)
	if n, ok := halves[wide]; ok {
		return f16(n)
	}
	if wide<<1>>1 > 0x7FF<<52 { // no number
		if wide<<35 == 0 {
			return f32(wide>>63<<31 | 0xFF<<23 | wide<<12>>12>>29)
		}
		return f64(wide)
	}
	if narrow := float32(math.Float64frombits(wide)); math.Float64bits(float64(narrow)) == wide {
		return f32(uint64(math.Float32bits(narrow)))
	}
	return f64(wide)
}

// rules goes over bytes by the rules that deterministic ones keep, and leaves
// with broken at the first that is not kept.
type rules struct {
	b      []byte
	count  int // the values so far
	broken bool
}

// wantIs tells whether b keeps all rules: those of RFC 8949, section 4.2.1, and
// the document's.
func wantIs(b []byte) bool {
	r := rules{b: b, broken: len(b) > 1<<20}
	r.item(0)
	return !r.broken && len(r.b) == 0
}

func (r *rules) keep(ok bool) {
	r.broken = r.broken || !ok
}

// take are the next bytes; none, if there are not so many.
func (r *rules) take(n uint64) []byte {
	r.keep(n <= uint64(len(r.b)))
	if r.broken {
		return nil
	}
	out := r.b[:n]
	r.b = r.b[n:]
	return out
}

// number is that of the next bytes.
func (r *rules) number(bytes int) uint64 {
	n := uint64(0)
	for _, x := range r.take(uint64(bytes)) {
		n = n<<8 + uint64(x)
	}
	return n
}

// item goes over an item that stands within so many others.
func (r *rules) item(parts int) {
	first := r.number(1)
	major, info := first/32, first%32
	n := info
	r.keep(info < 28)
	if info > 23 && !r.broken {
		n = r.number(1 << (info - 24))
	}
	if major == 7 {
		r.single(info, n)
	} else {
		r.keep(info < 24 || n >= []uint64{24, 1 << 8, 1 << 16, 1 << 32}[(info-24)%4])
		r.several(major, n, parts)
	}
	r.count++
	r.keep(r.count <= 1<<16)
}

// single goes on behind a head of the major 7.
func (r *rules) single(info, n uint64) {
	switch info {
	case 24:
		r.keep(n > 31)
	case 26:
		r.keep(wantFloat(f32(n)).K == api.KF32)
	case 27:
		r.keep(wantFloat(f64(n)).K == api.KF64)
	}
}

// several goes on behind a head of another major.
func (r *rules) several(major, n uint64, parts int) {
	if major > 3 {
		r.keep(parts < 64)
	}
	switch major {
	case 2:
		r.take(n)
	case 3:
		r.keep(utf8.Valid(r.take(n)))
	case 4:
		for i := uint64(0); i < n && !r.broken; i++ {
			r.item(parts + 1)
		}
	case 5:
		r.pairs(n, parts)
	case 6:
		inside := r.b
		r.item(parts + 1)
		if (n == 2 || n == 3) && !r.broken && inside[0]/32 == 2 {
			r.numberOf(inside[:len(inside)-len(r.b)])
		}
	}
}

func (r *rules) pairs(n uint64, parts int) {
	var last []byte
	for i := uint64(0); i < n && !r.broken; i++ {
		key := r.b
		r.item(parts + 1)
		key = key[:len(key)-len(r.b)]
		r.keep(i == 0 || bytes.Compare(last, key) < 0)
		last = key
		r.item(parts + 1)
	}
}

// numberOf asks for the item of bytes behind a tag 2 or 3 to be those of a
// number that can't be a KInt, without bytes 0 ahead.
func (r *rules) numberOf(inside []byte) {
	head := 1
	if info := inside[0] % 32; info > 23 {
		head += 1 << (info - 24)
	}
	b := inside[head:]
	r.keep(len(b) > 8 && b[0] > 0)
	if len(b) <= 512 { // a KBig is one value
		r.count--
	}
}
