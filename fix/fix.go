// Package fix is layer 1: whole numbers that stop at their ends. See shared/doc/01-fix.md.
package fix

import (
	"math"
	"math/bits"

	"windhover/api"
)

// Add is a + b, kept within an int.
func Add(a, b int) int {
	if b > 0 && a > math.MaxInt-b {
		return math.MaxInt
	}
	if b < 0 && a < math.MinInt-b {
		return math.MinInt
	}
	return a + b
}

// Sub is a - b, kept within an int.
func Sub(a, b int) int {
	if b < 0 && a > math.MaxInt+b {
		return math.MaxInt
	}
	if b > 0 && a < math.MinInt+b {
		return math.MinInt
	}
	return a - b
}

// Mul is a * b, kept within an int.
func Mul(a, b int) int {
	high, low := bits.Mul64(size(a), size(b))
	negative := (a < 0) != (b < 0)
	if high > 0 || low > math.MaxInt {
		return end(negative)
	}
	if negative {
		return -int(low)
	}
	return int(low)
}

// Clamp is x, kept from lo to hi.
func Clamp(x, lo, hi int) int {
	if x < lo {
		return lo
	}
	if x > hi {
		return hi
	}
	return x
}

// Sqrt is the greatest number whose square is at most n.
func Sqrt(n int) int {
	root := 0
	// The greatest int's root has 32 bits.
	for bit := 1 << 31; bit > 0; bit >>= 1 {
		// A quotient is held against next, since next's square may pass an int.
		if next := root + bit; next <= n/next {
			root = next
		}
	}
	return root
}

// MulDiv is a * b over c, rounded down, kept within an int.
func MulDiv(a, b, c int) (int, api.Errno) {
	if c == 0 {
		return 0, api.ErrArg
	}
	negative := ((a < 0) != (b < 0)) != (c < 0)
	high, low := bits.Mul64(size(a), size(b))
	divisor := size(c)
	// Div64 panics where the quotient passes 64 bits.
	if high >= divisor {
		return end(negative), api.OK
	}
	quotient, rest := bits.Div64(high, low, divisor)
	if quotient > math.MaxInt {
		return end(negative), api.OK
	}
	if !negative {
		return int(quotient), api.OK
	}
	// Sizes are cut off towards 0; below 0 rounding down leads away from it.
	if rest > 0 {
		return -int(quotient) - 1, api.OK
	}
	return -int(quotient), api.OK
}

// Up is a over b, rounded up.
func Up(a, b int) (int, api.Errno) {
	if b < 1 {
		return 0, api.ErrArg
	}
	if a%b > 0 {
		return a/b + 1, api.OK
	}
	return a / b, api.OK
}

// Down is a over b, rounded down.
func Down(a, b int) (int, api.Errno) {
	if b < 1 {
		return 0, api.ErrArg
	}
	if a%b < 0 {
		return a/b - 1, api.OK
	}
	return a / b, api.OK
}

// Slew is from, nearer to to by step at most.
func Slew(from, to, step int) int {
	if step < 1 {
		return from
	}
	if gap(from, to) <= uint64(step) {
		return to
	}
	if to > from {
		return from + step
	}
	return from - step
}

// Middle is the middle of two, rounded down.
func Middle(a, b int) int {
	// Halves are summed, since a + b may pass an int; two odd numbers lose a whole one by it.
	return a>>1 + b>>1 + a&b&1
}

// size is how far x is from 0; it is unsigned, since the least int's is no int.
func size(x int) uint64 {
	if x < 0 {
		return -uint64(x)
	}
	return uint64(x)
}

// gap is how far a and b are apart; it is unsigned, since it may pass an int.
func gap(a, b int) uint64 {
	if a < b {
		return uint64(b) - uint64(a)
	}
	return uint64(a) - uint64(b)
}

// end is the least int or the greatest one.
func end(negative bool) int {
	if negative {
		return math.MinInt
	}
	return math.MaxInt
}
