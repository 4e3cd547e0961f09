package fdec

import (
	"strconv"
	"strings"
)

// Where the point may stand, counted from the first digit on: beyond, a number
// is told by its exponent.
const (
	leastPoint    = -5
	greatestPoint = 21
)

// layOut puts a point behind so many of the digits.
func layOut(digits string, point int) string {
	switch {
	case point < leastPoint:
		fallthrough
	case point > greatestPoint:
		return withExponent(digits, point-1)
	case point <= 0:
		return "0." + zeros(-point) + digits
	case point >= len(digits):
		return digits + zeros(point-len(digits)) + ".0"
	}
	return digits[:point] + "." + digits[point:]
}

// withExponent puts a point behind the first digit, if there are others, and
// tells the exponent.
func withExponent(digits string, e int) string {
	var out strings.Builder
	out.WriteString(digits[:1])
	if len(digits) > 1 {
		out.WriteString(".")
		out.WriteString(digits[1:])
	}
	out.WriteString("e")
	out.WriteString(strconv.Itoa(e))
	return out.String()
}
