// Package number is layer 1: arithmetic on bounded integers. It is specified in shared/doc/01-number.md.
package number

import (
	"strconv"
	"strings"

	"provision/api"
)

// Valid reports whether n is from -MaxNumber to MaxNumber.
func Valid(n int) bool {
	return -api.MaxNumber <= n && n <= api.MaxNumber
}

// Format returns n in decimal.
func Format(n int) string {
	return strconv.Itoa(n)
}

// Parse returns the number whose decimal form is s.
func Parse(s string) (int, api.Errno) {
	digits, negative := strings.CutPrefix(s, "-")
	if !isNatural(digits) || negative && digits == "0" {
		return 0, api.ErrSyntax
	}
	n := 0
	for i := 0; i < len(digits); i++ {
		// n is valid here, so ten times n cannot overflow an int.
		n = 10*n + int(digits[i]-'0')
		if !Valid(n) {
			return 0, api.ErrRange
		}
	}
	if negative {
		n = -n
	}
	return n, api.OK
}

// isNatural reports whether s is the decimal form of a natural number, however large.
func isNatural(s string) bool {
	if s == "" || len(s) > 1 && s[0] == '0' {
		return false
	}
	for i := 0; i < len(s); i++ {
		if s[i] < '0' || s[i] > '9' {
			return false
		}
	}
	return true
}

// Add returns the sum of a and b.
func Add(a, b int) (int, api.Errno) {
	if !Valid(a) || !Valid(b) {
		return 0, api.ErrInvalid
	}
	return inRange(a + b)
}

// Sub returns a minus b.
func Sub(a, b int) (int, api.Errno) {
	if !Valid(a) || !Valid(b) {
		return 0, api.ErrInvalid
	}
	return inRange(a - b)
}

// inRange returns n if it is valid. The sum and the difference of two valid
// numbers fit into an int, so they can be checked after they were computed.
func inRange(n int) (int, api.Errno) {
	if !Valid(n) {
		return 0, api.ErrRange
	}
	return n, api.OK
}

// Mul returns the product of a and b.
func Mul(a, b int) (int, api.Errno) {
	if !Valid(a) || !Valid(b) {
		return 0, api.ErrInvalid
	}
	// A product of two valid numbers may overflow an int, so the factors are compared instead.
	if b != 0 && absolute(a) > api.MaxNumber/absolute(b) {
		return 0, api.ErrRange
	}
	return a * b, api.OK
}

// absolute returns the absolute value of a valid number.
func absolute(n int) int {
	if n < 0 {
		return -n
	}
	return n
}

// Div returns a divided by b, rounded down.
func Div(a, b int) (int, api.Errno) {
	if !Valid(a) || !Valid(b) {
		return 0, api.ErrInvalid
	}
	if b == 0 {
		return 0, api.ErrDivide
	}
	quotient, rest := a/b, a%b
	// Go rounds towards zero, which is up if the exact quotient is negative.
	if rest != 0 && (rest < 0) != (b < 0) {
		quotient--
	}
	return quotient, api.OK
}

// Mod returns a minus b times the result of Div.
func Mod(a, b int) (int, api.Errno) {
	quotient, e := Div(a, b)
	if e != api.OK {
		return 0, e
	}
	// The product differs from a by less than the absolute value of b, so it fits into an int.
	return a - b*quotient, api.OK
}
