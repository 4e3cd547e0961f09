package det_test

import (
	"math/bits"
	"strings"

	"glossator/api"
)

// chance tells numbers that look like chance but are the same in each run.
type chance uint64

func (c *chance) word() uint64 {
	*c ^= *c << 13
	*c ^= *c >> 7
	*c ^= *c << 17
	return uint64(*c) * 0x2545F4914F6CDD1D
}

func (c *chance) below(n int) int {
	return int(c.word() >> 1 % uint64(n))
}

// shuffled has the pairs of a map in another order.
func (c *chance) shuffled(v api.Value) api.Value {
	v = copied(v)
	for i := len(v.L)/2 - 1; i > 0; i-- {
		j := c.below(i + 1)
		v.L[2*i], v.L[2*j] = v.L[2*j], v.L[2*i]
		v.L[2*i+1], v.L[2*j+1] = v.L[2*j+1], v.L[2*i+1]
	}
	return v
}

// leaf is a value of few bytes, of any kind that CBOR says but those with others
// within, but for tags of numbers.
func (c *chance) leaf() api.Value {
	n := c.word() >> c.below(64)
	switch c.below(12) {
	case 0:
		return api.Value{K: []int{api.KNull, api.KUndef}[n%2]}
	case 1:
		return api.Value{K: api.KBool, N: n % 2}
	case 2:
		return simple(n % 20)
	case 3:
		return simple(32 + n%224)
	case 4:
		return api.Value{K: api.KInt, Neg: c.below(2) == 0, N: n}
	case 5:
		return api.Value{K: api.KBig, Neg: c.below(2) == 0, S: "\x01" + c.bytes(8+c.below(4))}
	case 6:
		return raw(c.bytes(c.below(4)))
	case 7:
		return text(strings.Repeat([]string{"a", "b", "\u20AC"}[n%3], c.below(4)))
	case 8:
		return tag(2+n%2, raw(c.bytes(c.below(9))))
	case 9:
		return tag(2+n%2, raw(zeros(1+c.below(3))+c.bytes(c.below(12))))
	}
	return c.float()
}

// bytes are n of them, many 0.
func (c *chance) bytes(n int) string {
	out := make([]byte, n)
	for i := range out {
		out[i] = byte(c.word()>>20) & byte(c.word()>>20) & byte(c.word()>>20)
	}
	return string(out)
}

// float has a fraction of which most bits are 0.
func (c *chance) float() api.Value {
	n := c.word()
	n &= maxUint64 << c.below(64)
	switch c.below(4) {
	case 0:
		return f16(n >> 48)
	case 1:
		return f32(n >> 32)
	case 2:
		return f64(wantWide(f32(n >> 32)))
	}
	return f64(n)
}

// tree is a right one that is no deeper than depth and three more. Some of its
// maps have a key twice.
func (c *chance) tree(depth int) api.Value {
	if depth == 0 || c.below(3) == 0 {
		return c.leaf()
	}
	switch c.below(4) {
	case 0:
		n := uint64(c.below(5))
		return tag(n, list(c.tree(depth-1)))
	case 1:
		return list(c.trees(c.below(5), depth-1)...)
	}
	v := pairs(c.trees(2*c.below(4), depth-1)...)
	if len(v.L) > 0 && c.below(12) == 0 {
		v.L = append(v.L, c.guise(v.L[0]), null())
	}
	return v
}

func (c *chance) trees(n, depth int) []api.Value {
	var out []api.Value
	for range n {
		out = append(out, c.tree(depth))
	}
	return out
}

// guise is a tree of the same value as v.
func (c *chance) guise(v api.Value) api.Value {
	v = copied(v)
	if v.K == api.KTag && (v.N == 2 || v.N == 3) && v.L[0].K == api.KBytes {
		v = wantNumber(v.N, v.L[0].S)
	}
	for i, x := range v.L {
		v.L[i] = c.guise(x)
	}
	switch {
	case v.K == api.KMap:
		return c.shuffled(v)
	case c.below(3) == 0:
		return v
	case v.K == api.KF16 && c.below(2) == 0:
		return f32(inSingle(wantWide(v)))
	case v.K == api.KF16 || v.K == api.KF32:
		return f64(wantWide(v))
	case v.K == api.KF64:
		return wantFloat(v)
	case v.K == api.KInt:
		return tag(tagOf(v), raw(zeros(c.below(12))+string(bytesOfNumber(v.N))))
	case v.K == api.KBig:
		return tag(tagOf(v), raw(zeros(1+c.below(4))+v.S))
	case v.K == api.KTag && v.L[0].K == api.KBytes && (v.N == 2 || v.N == 3):
		return tag(v.N, raw(zeros(c.below(4))+v.L[0].S))
	}
	return v
}

// inSingle are the bits of width 32 of a float of width 64 that a half is.
func inSingle(wide uint64) uint64 {
	sign := wide >> 63 << 31
	switch exponent := int(wide << 1 >> 53); exponent {
	case 0:
		return sign
	case 0x7FF:
		return sign | 0xFF<<23 | wide<<12>>12>>29
	default:
		return sign | uint64(exponent-1023+127)<<23 | wide<<12>>12>>29
	}
}

func tagOf(v api.Value) uint64 {
	if v.Neg {
		return 3
	}
	return 2
}

// bytesOfNumber are those of n, none 0 ahead.
func bytesOfNumber(n uint64) []byte {
	var out []byte
	for i := (bits.Len64(n) + 7) / 8; i > 0; i-- {
		out = append(out, byte(n>>(8*(i-1))))
	}
	return out
}

// changed has another value at one place.
func (c *chance) changed(v api.Value) api.Value {
	if len(v.L) > 0 && c.below(4) > 0 {
		v = copied(v)
		i := c.below(len(v.L))
		v.L[i] = c.changed(v.L[i])
		if v.K != api.KTag || v.L[0].K != api.KBytes {
			return v
		}
	}
	return c.leaf()
}
