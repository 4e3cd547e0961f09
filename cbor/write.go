package cbor

import (
	"glossator/api"
	"glossator/head"
)

// writer appends items.
type writer struct {
	out    []byte
	isOpen bool // as api.Option has it
}

// item writes v, which is right.
func (w *writer) item(v api.Value) {
	switch v.K {
	case api.KNull:
		w.head(majorOther, nullInfo)
	case api.KUndef:
		w.head(majorOther, undefInfo)
	case api.KBool:
		w.head(majorOther, falseInfo+v.N)
	case api.KSimple:
		w.head(majorOther, v.N)
	case api.KInt:
		w.head(majorWhole+sign(v), v.N)
	case api.KF16:
		w.float(f16Info, v.N, 2)
	case api.KF32:
		w.float(f32Info, v.N, 4)
	case api.KF64:
		w.float(f64Info, v.N, 8)
	case api.KBig:
		w.head(majorTag, uint64(bigTag+sign(v)))
		fallthrough
	case api.KBytes:
		w.stretch(majorBytes, v.S)
	case api.KText:
		w.stretch(majorText, v.S)
	case api.KList:
		w.many(majorList, len(v.L), v.L)
	case api.KMap:
		w.many(majorMap, len(v.L)/2, v.L)
	case api.KTag:
		w.head(majorTag, v.N)
		w.item(v.L[0])
	default: // a KExt
		panic(refusal{why: api.ErrSay})
	}
}

// sign is 1 of a number below 0: majors and tags of such ones stand behind those
// of the others.
func sign(v api.Value) int {
	if v.Neg {
		return 1
	}
	return 0
}

// head writes the head with the fewest bytes; a right tree has none that can't
// be.
func (w *writer) head(major int, n uint64) {
	b, _ := head.Put(major, n)
	w.out = append(w.out, b...)
}

// float writes bits as they stand: head.Put would have none of them.
func (w *writer) float(info int, bits uint64, size int) {
	w.first(majorOther, info)
	for i := size - 1; i >= 0; i-- {
		w.out = append(w.out, byte(bits>>(8*i)))
	}
}

func (w *writer) first(major, info int) {
	w.out = append(w.out, byte(major<<majorBits|info))
}

// stretch writes bytes or a text.
func (w *writer) stretch(major int, s string) {
	if !w.isOpen {
		w.piece(major, s)
		return
	}
	w.first(major, openInfo)
	if s != "" {
		w.piece(major, s)
	}
	w.out = append(w.out, end)
}

func (w *writer) piece(major int, s string) {
	w.head(major, uint64(len(s)))
	w.out = append(w.out, s...)
}

// many writes a list or a map, of which the head tells the count.
func (w *writer) many(major, count int, l []api.Value) {
	if w.isOpen {
		w.first(major, openInfo)
	} else {
		w.head(major, uint64(count))
	}
	for _, v := range l {
		w.item(v)
	}
	if w.isOpen {
		w.out = append(w.out, end)
	}
}
