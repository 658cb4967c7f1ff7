package exact

import (
	"strings"

	"amble/api"
)

// Parse returns the number of a text: an optional minus sign, and an integer,
// a fraction or a decimal fraction.
func Parse(s string) (Q, api.Errno) {
	if len(s) > api.MaxNumber {
		return Q{}, api.ErrLimit
	}
	s, negative := strings.CutPrefix(s, "-")
	top, bottom, fraction := strings.Cut(s, "/")
	decimal := false
	if !fraction {
		top, bottom, decimal = strings.Cut(s, ".")
	}
	if !isInteger(top) || fraction && !isInteger(bottom) || decimal && !isDigits(bottom) {
		return Q{}, api.ErrForm
	}
	size, under := magOf(top), mag{word: 1}
	if fraction {
		under = magOf(bottom)
	}
	if decimal {
		size, under = magOf(top+bottom), powerOfTen(len(bottom))
	}
	if under.isZero() {
		return Q{}, api.ErrZero
	}
	return reduced(signed{negative && !size.isZero(), size}, under), api.OK
}

// isDigits reports whether s is one decimal digit or more.
func isDigits(s string) bool {
	for i := range len(s) {
		if s[i] < '0' || s[i] > '9' {
			return false
		}
	}
	return s != ""
}

// isInteger reports whether s is 0, or digits of which the first one is not 0.
func isInteger(s string) bool { return isDigits(s) && (s == "0" || s[0] != '0') }

// magOf returns the magnitude of decimal digits.
func magOf(digits string) mag {
	var sum mag
	for len(digits) > 0 {
		n := min(chunk, len(digits))
		part := uint64(0)
		for i := range n {
			part = part*10 + uint64(digits[i]-'0')
		}
		sum = sum.times(powerOfTen(n)).plus(mag{word: part})
		digits = digits[n:]
	}
	return sum
}

func powerOfTen(n int) mag {
	power, ten := mag{word: 1}, mag{word: 10}
	for range n {
		power = power.times(ten)
	}
	return power
}

// Text returns the numerator in decimal digits, and, if the denominator is not
// 1, a stroke and the denominator.
func (a Q) Text() string {
	text := a.size.text()
	if a.negative {
		text = "-" + text
	}
	if !a.isWhole() {
		text += "/" + a.den.text()
	}
	return text
}
