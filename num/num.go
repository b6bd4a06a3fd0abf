// Package num implements exact integer arithmetic. See shared/doc/01-num.md.
package num

import (
	"homehub/api"
)

const (
	halfBits    = 20                    // half the bits of MaxInt
	halfMask    = 1<<halfBits - 1       // the lower half
	intDigits   = 19                    // digits of the least int
	parseLength = len("-1099511627776") // of the longest text of a limited number
)

// Sat limits a number to the range of values.
func Sat(n int) int {
	return Clamp(n, -api.MaxInt, api.MaxInt)
}

// Add returns the sum.
func Add(a, b int) int {
	sum := a + b
	// The sum of two numbers of one sign has that sign, unless it overflowed.
	if a >= 0 && b >= 0 && sum < 0 {
		return api.MaxInt
	}
	if a < 0 && b < 0 && sum >= 0 {
		return -api.MaxInt
	}
	return Sat(sum)
}

// Sub returns the difference.
func Sub(a, b int) int {
	difference := a - b
	// Not Add(a, -b): the least int has no opposite.
	if a >= 0 && b < 0 && difference < 0 {
		return api.MaxInt
	}
	if a < 0 && b >= 0 && difference >= 0 {
		return -api.MaxInt
	}
	return Sat(difference)
}

// Mul returns the product.
func Mul(a, b int) int {
	// That Scale limits its factors changes nothing here: the product with a
	// factor beyond the limit is 0 or itself at least at the limit.
	return Scale(a, b, 1)
}

// Floor returns the quotient, rounded down.
func Floor(a, b int) int {
	if b == 0 {
		return 0
	}
	a, b = Sat(a), Sat(b)
	quotient := a / b
	if a%b != 0 && (a < 0) != (b < 0) {
		quotient--
	}
	return quotient
}

// Ceil returns the quotient, rounded up.
func Ceil(a, b int) int {
	return -Floor(-Sat(a), b)
}

// Clamp limits a number to a range.
func Clamp(n, lo, hi int) int {
	return min(max(n, lo), hi)
}

// Scale returns n a / b, rounded down.
func Scale(n, a, b int) int {
	if b == 0 {
		return 0
	}
	n, a, b = Sat(n), Sat(a), Sat(b)
	quotient, rest := scaleMagnitudes(magnitude(n), magnitude(a), magnitude(b))
	negative := (n < 0) != (a < 0) != (b < 0)
	if !negative {
		return Sat(quotient)
	}
	// Rounding a negative number down is rounding its magnitude up.
	if rest != 0 {
		quotient++
	}
	return Sat(-quotient)
}

// scaleMagnitudes returns the quotient and the rest of n a / b, for numbers of
// at most MaxInt and b not 0. Like a division by hand, it takes the upper half
// of a first: the whole product does not fit an int, but those with the halves
// do. A quotient that is too great for an int is replaced by one above MaxInt.
func scaleMagnitudes(n, a, b uint) (int, uint) {
	upper := n * (a >> halfBits)
	lower := upper%b<<halfBits + n*(a&halfMask)
	quotient := min(upper/b, api.MaxInt)<<halfBits + lower/b
	return int(quotient), lower % b
}

// magnitude returns the absolute value, which for the least int is no int.
func magnitude(n int) uint {
	if n < 0 {
		return -uint(n)
	}
	return uint(n)
}

// Digits returns the decimal digits.
func Digits(n int) string {
	var text [1 + intDigits]byte
	at := len(text)
	rest := magnitude(n)
	for range intDigits {
		at--
		text[at] = '0' + byte(rest%10)
		rest /= 10
		if rest == 0 {
			break
		}
	}
	if n < 0 {
		at--
		text[at] = '-'
	}
	return string(text[at:])
}

// Parse returns the number with these digits.
func Parse(s string) (int, bool) {
	if s == "" || len(s) > parseLength {
		return 0, false
	}
	n := 0
	if s[0] == '-' {
		n = -readDigits(s[1:])
	} else {
		n = readDigits(s)
	}
	// Whatever else the text may be, it is the number's only if Digits writes it.
	if n != Sat(n) || Digits(n) != s {
		return 0, false
	}
	return n, true
}

// readDigits returns the number with these digits, and some number if not all
// bytes are digits. The text is short enough for an int.
func readDigits(s string) int {
	n := 0
	for i := range len(s) {
		n = 10*n + int(s[i]-'0')
	}
	return n
}
