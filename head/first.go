package head

// Majors.
const (
	whole = iota
	wholeBelow
	bytes
	text
	list
	pairs
	tag
	others
)

// infoBits are those of a head's first byte that stand below the major's.
const infoBits = 5

// open is the info of what is open, and, of the major others, of its end.
const open = 1<<infoBits - 1

// leastBehind is the least number of the major others that may stand behind
// the first byte: none that an info can be.
const leastBehind = 1 << infoBits

// split tells the major and the info of a head's first byte.
func split(first byte) (int, int) {
	return int(first >> infoBits), int(first & open)
}

// join undoes split.
func join(major, info int) byte {
	return byte(major<<infoBits | info)
}

// canBeOpen tells whether heads of the major can have the info open.
func canBeOpen(major int) bool {
	switch major {
	case bytes, text, list, pairs, others:
		return true
	}
	return false
}
