package cbor

// The major kinds of heads.
const (
	majorWhole = iota // numbers from 0 on
	majorBelow        // numbers below 0
	majorBytes        // bytes
	majorText
	majorList
	majorMap
	majorTag
	majorOther
)

// Numbers of tags.
const (
	bigTag   = 2 // a KBig
	belowTag = 3 // a KBig below 0
)

// Infos of majorOther.
const (
	falseInfo = 20
	trueInfo  = 21
	nullInfo  = 22
	undefInfo = 23
	f16Info   = 25
	f32Info   = 26
	f64Info   = 27
)

const (
	openInfo  = 31
	majorBits = 5   // an info's bits, above which the major stands
	end       = 255 // the byte that ends what is open
)
