// Package num is layer 1: checked integer arithmetic and decimal numbers (see shared/doc/01-num.md).
package num

import (
	"math"
	"math/bits"
	"strconv"
	"strings"

	"lottery/api"
)

// maxExponent is the greatest exponent of Power.
const maxExponent = 62

// Add returns a + b, or ErrOverflow if that is not an int.
func Add(a, b int) (int, api.Errno) {
	if b > 0 && a > math.MaxInt-b || b < 0 && a < math.MinInt-b {
		return 0, api.ErrOverflow
	}
	return a + b, api.OK
}

// Sub returns a - b, or ErrOverflow if that is not an int.
func Sub(a, b int) (int, api.Errno) {
	if b < 0 && a > math.MaxInt+b || b > 0 && a < math.MinInt+b {
		return 0, api.ErrOverflow
	}
	return a - b, api.OK
}

// Mul returns a * b, or ErrOverflow if that is not an int.
func Mul(a, b int) (int, api.Errno) {
	if !productFits(a, b) {
		return 0, api.ErrOverflow
	}
	return a * b, api.OK
}

// productFits compares one operand with a limit divided by the other, because the product itself may wrap around.
// The operand to divide by is chosen so that MinInt is never divided by -1.
func productFits(a, b int) bool {
	switch {
	case a > 0 && b > 0:
		return b <= math.MaxInt/a
	case a > 0 && b < 0:
		return b >= math.MinInt/a
	case a < 0 && b > 0:
		return a >= math.MinInt/b
	case a < 0 && b < 0:
		return b >= math.MaxInt/a
	}
	return true
}

// MulDiv returns a * b / c, rounded down, and the remainder. It needs numbers that are not negative.
func MulDiv(a, b, c int) (int, int, api.Errno) {
	if c == 0 {
		return 0, 0, api.ErrDivide
	}
	if a < 0 || b < 0 || c < 0 {
		return 0, 0, api.ErrRange
	}
	high, low := bits.Mul64(uint64(a), uint64(b))
	if high >= uint64(c) {
		// The quotient has more than 64 bits, for which Div64 panics.
		return 0, 0, api.ErrOverflow
	}
	quotient, remainder := bits.Div64(high, low, uint64(c))
	if quotient > math.MaxInt {
		return 0, 0, api.ErrOverflow
	}
	return int(quotient), int(remainder), api.OK
}

// Power returns a to the power of n, for n from 0 to 62.
func Power(a, n int) (int, api.Errno) {
	if n < 0 || n > maxExponent {
		return 0, api.ErrRange
	}
	power := 1
	for range n {
		// If this product is not an int, a is not 0, and no later power is closer to 0 than the product.
		product, err := Mul(power, a)
		if err != api.OK {
			return 0, err
		}
		power = product
	}
	return power, api.OK
}

// GCD returns the greatest common divisor of the absolute values, and 0 if it is 2^63, which is not an int.
func GCD(a, b int) int {
	x, y := magnitude(a), magnitude(b)
	for y != 0 {
		x, y = y, x%y
	}
	if x > math.MaxInt {
		return 0
	}
	return int(x)
}

// magnitude adds 1 before it changes the sign, because -MinInt is not an int.
func magnitude(n int) uint64 {
	if n < 0 {
		return uint64(-(n + 1)) + 1
	}
	return uint64(n)
}

// Parse returns the number that s is the decimal number of.
func Parse(s string) (int, api.Errno) {
	if !isDecimal(s) {
		return 0, api.ErrSyntax
	}
	n, err := strconv.Atoi(s)
	if err != nil {
		// The text is a number: what is left to be wrong is that it is not an int.
		return 0, api.ErrOverflow
	}
	return n, api.OK
}

func isDecimal(s string) bool {
	digits := strings.TrimPrefix(s, "-")
	if digits == "" {
		return false
	}
	if digits[0] == '0' {
		return s == "0"
	}
	for i := range len(digits) {
		if digits[i] < '0' || digits[i] > '9' {
			return false
		}
	}
	return true
}

// Format returns the decimal number of n.
func Format(n int) string {
	return strconv.Itoa(n)
}
