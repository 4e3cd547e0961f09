package esc

// appendInside appends the byte b as it stands between quotes.
func appendInside(out []byte, b byte) []byte {
	switch b {
	case '\b':
		return append(out, `\b`...)
	case '\f':
		return append(out, `\f`...)
	case '\n':
		return append(out, `\n`...)
	case '\r':
		return append(out, `\r`...)
	case '\t':
		return append(out, `\t`...)
	case quote, escape:
		out = append(out, escape)
		fallthrough
	default:
		if b < firstPlain {
			return appendCode(out, b)
		}
		return append(out, b)
	}
}

// appendCode appends the byte b by its digits.
func appendCode(out []byte, b byte) []byte {
	const digits = "0123456789abcdef"
	out = append(out, `\u00`...)
	return append(out, digits[b>>4], digits[b&0xF])
}
