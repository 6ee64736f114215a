// Package num: numbers as bytes: see doc/01-num.md.
package num

import "starling/api"

const (
	digitBits = 7              // bits of a digit to the base 128
	more      = 1 << digitBits // added to each digit behind which another one stands
	maxBytes  = 10             // bytes of the greatest number
	maxLast   = 1              // of a tenth byte: only one bit of 64 is left for it
)

// Write tells a number by its digits to the base 128, the least one first.
func Write(n uint64) string {
	var digits []byte
	for n >= more {
		digits = append(digits, byte(n%more)+more)
		n /= more
	}
	return string(append(digits, byte(n)))
}

// Read answers the number with which a text begins, and how many bytes it has.
func Read(s string) (uint64, int, api.Errno) {
	var n uint64
	for i := range len(s) {
		b := s[i]
		if i == maxBytes-1 && b > maxLast {
			return 0, 0, api.ErrMany
		}
		n += uint64(b%more) << (digitBits * i)
		if b >= more {
			continue
		}
		if b == 0 && i > 0 {
			// A digit 0 on top would give a number a second text.
			return 0, 0, api.ErrForm
		}
		return n, i + 1, api.OK
	}
	return 0, 0, api.ErrNone
}

// Zig numbers all signed numbers from 0 on, those near 0 first.
func Zig(n int64) uint64 {
	if n < 0 {
		// -2n - 1 is 2(-n - 1) + 1, and ^n is -n - 1: nothing runs over.
		return 2*uint64(^n) + 1
	}
	return 2 * uint64(n)
}

// Zag goes back from what Zig answers.
func Zag(n uint64) int64 {
	half := int64(n / 2)
	if n%2 == 1 {
		return ^half
	}
	return half
}

// Signed writes the Zig of a number.
func Signed(n int64) string {
	return Write(Zig(n))
}

// ReadSigned reads what Signed writes.
func ReadSigned(s string) (int64, int, api.Errno) {
	n, size, err := Read(s)
	// With an error n is 0, and so is its Zag.
	return Zag(n), size, err
}
