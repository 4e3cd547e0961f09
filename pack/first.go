package pack

// First bytes. The digit at the end of a name is how many bytes behind the first
// one tell the number, or the length. Those with few are the lowest of a range,
// within which a byte tells the number by its place.
const (
	fewWhole = 0x00
	fewMap   = 0x80
	fewList  = 0x90
	fewText  = 0xA0
	null     = 0xC0
	none     = 0xC1 // no item begins so
	fewBool  = 0xC2
	bytes1   = 0xC4
	bytes2   = 0xC5
	bytes4   = 0xC6
	ext1     = 0xC7
	ext2     = 0xC8
	ext4     = 0xC9
	float4   = 0xCA
	float8   = 0xCB
	whole1   = 0xCC // without a sign
	whole2   = 0xCD
	whole4   = 0xCE
	whole8   = 0xCF
	signed1  = 0xD0
	signed2  = 0xD1
	signed4  = 0xD2
	signed8  = 0xD3
	fewExt   = 0xD4 // of 1 byte; each byte behind it is of twice as many
	text1    = 0xD9
	text2    = 0xDA
	text4    = 0xDB
	list2    = 0xDC
	list4    = 0xDD
	map2     = 0xDE
	map4     = 0xDF
	fewBelow = 0xE0 // the number itself, with a sign
)

const (
	manyParts = 16 // of a list or a map: too many for its first byte
	manyBytes = 32 // likewise of a text
)

// split tells the lowest byte of the range in which a first byte stands, and its
// place there.
func split(first byte) (byte, uint64) {
	low := first
	switch {
	case first < fewMap:
		low = fewWhole
	case first < fewList:
		low = fewMap
	case first < fewText:
		low = fewList
	case first < null:
		low = fewText
	case fewBool <= first && first < bytes1:
		low = fewBool
	case fewExt <= first && first < text1:
		low = fewExt
	case first >= fewBelow:
		low = fewBelow
	}
	return low, uint64(first - low)
}

// width tells how many bytes behind a first byte tell the number.
func width(first byte) int {
	out := 0
	switch first {
	case float8, whole8, signed8:
		out += 4
		fallthrough
	case float4, whole4, signed4, bytes4, ext4, text4, list4, map4:
		out += 2
		fallthrough
	case whole2, signed2, bytes2, ext2, text2, list2, map2:
		out++
		fallthrough
	case whole1, signed1, bytes1, ext1, text1:
		out++
	}
	return out
}

// number is that of up to eight bytes, the highest first.
func number[T string | []byte](b T) uint64 {
	out := uint64(0)
	for i := range len(b) {
		out = out<<8 | uint64(b[i])
	}
	return out
}
