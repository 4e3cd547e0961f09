package fdec

import "strings"

// parts are those of a number as it is written; digits that do not stand there
// are empty.
type parts struct {
	neg         bool
	whole       string
	fraction    string
	negExponent bool
	exponent    string
}

// cut tells the parts of s, if it has the form of a number.
func cut(s string) (parts, bool) {
	var p parts
	s, p.neg = strings.CutPrefix(s, "-")
	p.whole, s = cutDigits(s)
	ok := p.whole != ""
	if after, found := strings.CutPrefix(s, "."); found {
		p.fraction, s = cutDigits(after)
		ok = ok && p.fraction != ""
	}
	if s != "" && (s[0] == 'e' || s[0] == 'E') {
		p.negExponent, s = cutSign(s[1:])
		p.exponent, s = cutDigits(s)
		ok = ok && p.exponent != ""
	}
	return p, ok && s == ""
}

// cutSign tells whether s begins with a sign - and what is behind a sign.
func cutSign(s string) (bool, string) {
	if after, found := strings.CutPrefix(s, "+"); found {
		return false, after
	}
	after, neg := strings.CutPrefix(s, "-")
	return neg, after
}

// cutDigits tells the digits at the beginning of s, and what is behind them.
func cutDigits(s string) (string, string) {
	n := countDigits(s)
	return s[:n], s[n:]
}

// countDigits tells how many digits s begins with.
func countDigits(s string) int {
	n := 0
	for n < len(s) && '0' <= s[n] && s[n] <= '9' {
		n++
	}
	return n
}

// place tells the exponent of 10 of all digits taken as a whole number. The
// digits of the written exponent are few.
func (p parts) place() int {
	e := 0
	for i := range len(p.exponent) {
		e = e*10 + int(p.exponent[i]-'0')
	}
	if p.negExponent {
		e = -e
	}
	return e - len(p.fraction)
}
