package utf

// Bytes behind the second one have the whole range of such bytes.
const (
	lowest  = 0x80
	highest = 0xBF
)

// A tail is what is due behind the bytes of a code point that came: so many
// bytes, the next one from low to high. Of a whole one none is due.
type tail struct {
	count     int
	low, high byte
}

// take goes on by the byte b, or tells that no right text does, and stays.
func (t *tail) take(b byte) bool {
	if t.count == 0 {
		next, ok := behind(b)
		*t = next
		return ok
	}
	if b < t.low || b > t.high {
		return false
	}
	*t = tail{t.count - 1, lowest, highest}
	return true
}

// takeAll goes on by the bytes of s up to the first that take refuses, and
// tells how many it took.
func takeAll[T string | []byte](t *tail, s T) int {
	for i := range len(s) {
		if !t.take(s[i]) {
			return i
		}
	}
	return len(s)
}

// behind tells the tail of a first byte, and whether a code point can begin
// with it.
func behind(first byte) (tail, bool) {
	// Most bytes of most texts need no look into the table.
	if first <= 0x7F {
		return tail{}, true
	}
	table := [...]struct {
		from, to byte
		tail     tail
	}{
		{0xC2, 0xDF, tail{1, lowest, highest}},
		{0xE0, 0xE0, tail{2, 0xA0, highest}}, // below A0: two bytes would do
		{0xE1, 0xEC, tail{2, lowest, highest}},
		{0xED, 0xED, tail{2, lowest, 0x9F}}, // above 9F: D800 to DFFF
		{0xEE, 0xEF, tail{2, lowest, highest}},
		{0xF0, 0xF0, tail{3, 0x90, highest}}, // below 90: three bytes would do
		{0xF1, 0xF3, tail{3, lowest, highest}},
		{0xF4, 0xF4, tail{3, lowest, 0x8F}}, // above 8F: above 10FFFF
	}
	for _, row := range table {
		if row.from <= first && first <= row.to {
			return row.tail, true
		}
	}
	return tail{}, false
}
