package json

// expected is what may come next in a text.
type expected int

const (
	anyValue   expected = iota
	firstValue          // or the end of a list
	moreValues          // a comma, or the end of a list
	firstKey            // or the end of a map
	anyKey
	colon
	morePairs // a comma, or the end of a map
	nothing
)

// takes tells whether what is expected can begin with the byte b.
func (x expected) takes(b byte) bool {
	switch x {
	case anyValue:
		return beginsValue(b)
	case firstValue:
		return beginsValue(b) || b == ']'
	case moreValues:
		return b == ',' || b == ']'
	case firstKey:
		return b == '"' || b == '}'
	case anyKey:
		return b == '"'
	case colon:
		return b == ':'
	case morePairs:
		return b == ',' || b == '}'
	}
	return false
}

func beginsValue(b byte) bool {
	switch b {
	case '[', '{', '"', '-', 'n', 't', 'f':
		return true
	}
	return '0' <= b && b <= '9'
}
