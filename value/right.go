package value

import (
	"glossator/api"
	"glossator/fbits"
	"glossator/utf"
)

const (
	leastBig = 9 // bytes of a KBig: with fewer it is a KInt
	lastBool = 1
	lastByte = 255
	// Those between are other kinds', or such that no item has.
	lastLowSimple   = 19
	firstHighSimple = 32
	tagBig          = 2
	tagBigNeg       = 3
)

// fields tells which ones a kind has beside K. The others must be zero.
type fields struct {
	neg, n, s, l bool
}

// fieldsOf tells the fields of a kind, if it is one.
func fieldsOf(kind int) (fields, bool) {
	table := [...]fields{
		api.KNull:   {},
		api.KBool:   {n: true},
		api.KUndef:  {},
		api.KSimple: {n: true},
		api.KInt:    {neg: true, n: true},
		api.KBig:    {neg: true, s: true},
		api.KF16:    {n: true},
		api.KF32:    {n: true},
		api.KF64:    {n: true},
		api.KBytes:  {s: true},
		api.KText:   {s: true},
		api.KList:   {l: true},
		api.KMap:    {l: true},
		api.KTag:    {n: true, l: true},
		api.KExt:    {n: true, s: true},
	}
	if kind < 0 || kind >= len(table) {
		return fields{}, false
	}
	return table[kind], true
}

// cover tells whether v has no other fields.
func (f fields) cover(v api.Value) bool {
	return (f.neg || !v.Neg) && (f.n || v.N == 0) && (f.s || v.S == "") && (f.l || len(v.L) == 0)
}

// isRight tells whether v is right but for the values within it.
func isRight(v api.Value) bool {
	f, ok := fieldsOf(v.K)
	return ok && f.cover(v) && isWithin(v)
}

// isWithin tells whether the fields that v has are within the bounds of its kind.
func isWithin(v api.Value) bool {
	switch v.K {
	case api.KBool:
		return v.N <= lastBool
	case api.KSimple:
		return v.N <= lastLowSimple || firstHighSimple <= v.N && v.N <= lastByte
	case api.KBig:
		return canBeBig(v.S)
	case api.KF16:
		return isFloat(16, v.N)
	case api.KF32:
		return isFloat(32, v.N)
	case api.KText:
		_, e := utf.Check(v.S)
		return e == api.OK
	case api.KMap:
		return len(v.L)%2 == 0
	case api.KTag:
		return len(v.L) == 1 && !tellsBig(v.N, v.L[0])
	case api.KExt:
		return v.N <= lastByte
	}
	return true
}

func isFloat(width int, bits uint64) bool {
	_, e := fbits.Class(width, bits)
	return e == api.OK
}

// canBeBig tells whether s could be a KBig's.
func canBeBig(s string) bool {
	return leastBig <= len(s) && len(s) <= api.MaxBig && s[0] != 0
}

// tellsBig tells whether a tag of v would tell what a KBig is there for.
func tellsBig(tag uint64, v api.Value) bool {
	return (tag == tagBig || tag == tagBigNeg) && v.K == api.KBytes && canBeBig(v.S)
}
