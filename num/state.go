package num

// A state tells what a number's last byte is.
type state int

const (
	start state = iota
	minus
	zero // a 0 that no digit goes on
	whole
	point
	fraction
	mark // e or E
	sign
	exponent
	stuck // no number begins so
)

// goOver tells how many bytes of s begin a number, and the state behind them.
func goOver(s string) (int, state) {
	now := start
	for at := range len(s) {
		next := now.step(s[at])
		if next == stuck {
			return at, now
		}
		now = next
	}
	return len(s), now
}

// step tells the state behind the byte b.
func (now state) step(b byte) state {
	isDigit := func(least byte) bool { return least <= b && b <= '9' }
	switch now {
	case start, minus:
		switch {
		case now == start && b == '-':
			return minus
		case b == '0':
			return zero
		case isDigit('1'):
			return whole
		}
	case zero, whole:
		switch {
		case now == whole && isDigit('0'):
			return whole
		case b == '.':
			return point
		case isMark(b):
			return mark
		}
	case point, fraction:
		switch {
		case isDigit('0'):
			return fraction
		case now == fraction && isMark(b):
			return mark
		}
	case mark, sign, exponent:
		switch {
		case isDigit('0'):
			return exponent
		case now == mark && (b == '+' || b == '-'):
			return sign
		}
	}
	return stuck
}

func isMark(b byte) bool {
	return b == 'e' || b == 'E'
}

// ends tells whether a number may end here.
func (now state) ends() bool {
	switch now {
	case zero, whole, fraction, exponent:
		return true
	}
	return false
}
