package base

// gather answers what takes bits by groups of any size, the highest first, and
// says them by groups of one size.
func gather(size int, say func(uint)) func(uint, int) {
	held, waiting := uint(0), 0
	return func(group uint, bits int) {
		held = held<<bits | group
		waiting += bits
		for waiting >= size {
			waiting -= size
			say(held >> waiting)
			held &= 1<<waiting - 1
		}
	}
}
