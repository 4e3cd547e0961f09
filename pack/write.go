package pack

import (
	"glossator/api"
)

// writer appends items.
type writer struct {
	out []byte
}

// item writes v, which is right, or refuses what has no item.
func (w *writer) item(v api.Value) api.Errno {
	switch v.K {
	case api.KNull:
		w.first(null)
	case api.KBool:
		w.first(fewBool + byte(v.N))
	case api.KInt:
		return w.whole(v)
	case api.KF32:
		w.first(float4)
		w.low(v.N, 4)
	case api.KF64:
		w.first(float8)
		w.low(v.N, 8)
	case api.KBytes:
		w.head(bytes1, 1, uint64(len(v.S)))
		w.out = append(w.out, v.S...)
	case api.KText:
		w.text(v.S)
	case api.KList:
		return w.many(fewList, list2, len(v.L), v.L)
	case api.KMap:
		return w.many(fewMap, map2, len(v.L)/2, v.L)
	case api.KExt:
		w.ext(v)
	default:
		return api.ErrSay
	}
	return api.OK
}

func (w *writer) first(first byte) {
	w.out = append(w.out, first)
}

// low writes the lowest bytes of n.
func (w *writer) low(n uint64, width int) {
	for i := width - 1; i >= 0; i-- {
		w.out = append(w.out, byte(n>>(8*i)))
	}
}

// least tells how many bytes have room for n, the fewest from width on, and the
// first byte for so many: the one for width is handed in, and each one behind it
// is for twice as many.
func least(first byte, width int, n uint64) (byte, int) {
	for n>>(8*width) > 0 {
		first++
		width *= 2
	}
	return first, width
}

// head writes a first byte and n behind it.
func (w *writer) head(first byte, width int, n uint64) {
	first, width = least(first, width, n)
	w.first(first)
	w.low(n, width)
}

// whole writes a number, or refuses it if it is too far below 0.
func (w *writer) whole(v api.Value) api.Errno {
	switch {
	case v.Neg:
		return w.below(v.N)
	case v.N < fewMap:
		w.first(fewWhole + byte(v.N))
	default:
		w.head(whole1, 1, v.N)
	}
	return api.OK
}

// below writes the number -1 - n, of which ^n are the bits with a sign.
func (w *writer) below(n uint64) api.Errno {
	switch {
	case n>>63 > 0:
		return api.ErrSay
	case n <= 0xFF-fewBelow:
		w.low(^n, 1)
	default:
		first, width := least(signed1, 1, n<<1) // a bit more, for the sign
		w.first(first)
		w.low(^n, width)
	}
	return api.OK
}

func (w *writer) text(s string) {
	if len(s) < manyBytes {
		w.first(fewText + byte(len(s)))
	} else {
		w.head(text1, 1, uint64(len(s)))
	}
	w.out = append(w.out, s...)
}

// many writes a list or a map, of which the head tells the count.
func (w *writer) many(few, first byte, count int, l []api.Value) api.Errno {
	if count < manyParts {
		w.first(few + byte(count))
	} else {
		w.head(first, 2, uint64(count))
	}
	for _, v := range l {
		if e := w.item(v); e != api.OK {
			return e
		}
	}
	return api.OK
}

func (w *writer) ext(v api.Value) {
	first := byte(fewExt)
	switch len(v.S) {
	case 16:
		first++
		fallthrough
	case 8:
		first++
		fallthrough
	case 4:
		first++
		fallthrough
	case 2:
		first++
		fallthrough
	case 1:
		w.first(first)
	default:
		w.head(ext1, 1, uint64(len(v.S)))
	}
	w.first(byte(v.N)) // its type
	w.out = append(w.out, v.S...)
}
