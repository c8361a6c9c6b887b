// Package word is layer 1, numbers as bytes: see shared/doc/01-word.md.
package word

import (
	"math/bits"
	"strconv"

	"outrider/api"
)

const (
	widest  = 8   // bytes of a number
	longest = 10  // bytes of a number by sevens of bits
	seven   = 127 // the bits of the number in one of those
	goesOn  = 128 // in all of those but the last one
)

// Put: the last size bytes of a number, the highest first.
func Put(n uint64, size int) string {
	size = min(max(size, 0), widest)
	b := make([]byte, size)
	for i := range size {
		b[size-1-i] = byte(n >> (8 * i))
	}
	return string(b)
}

// Get: the number of 1 to 8 bytes.
func Get(s string) (uint64, api.Errno) {
	if len(s) < 1 {
		return 0, api.ErrShort
	}
	if len(s) > widest {
		return 0, api.ErrLong
	}
	var n uint64
	for i := range len(s) {
		n = n<<8 | uint64(s[i])
	}
	return n, api.OK
}

// Short: a number by sevens of bits, the lowest first.
func Short(n uint64) string {
	var b []byte
next:
	if n > seven {
		b = append(b, byte(n&seven)+goesOn)
		n >>= 7
		goto next
	}
	return string(append(b, byte(n)))
}

// Long: the number by sevens that a text begins with, and of how many bytes.
func Long(s string) (uint64, int, api.Errno) {
	var n uint64
	i := 0
next:
	if i == longest {
		return 0, 0, api.ErrForm
	}
	if i == len(s) {
		return 0, 0, api.ErrShort
	}
	c := s[i]
	n |= uint64(c&seven) << (7 * i)
	i++
	if c >= goesOn {
		goto next
	}
	if i > 1 && c == 0 { // the one ahead would have been the last
		return 0, 0, api.ErrForm
	}
	if i == longest && c > 1 { // nine sevens leave one bit of 64
		return 0, 0, api.ErrForm
	}
	return n, i, api.OK
}

// Add: a sum, or the greatest number.
func Add(a, b uint64) uint64 {
	n, over := bits.Add64(a, b, 0)
	if over != 0 {
		return 1<<64 - 1
	}
	return n
}

// Sub: a difference, or 0.
func Sub(a, b uint64) uint64 {
	if a < b {
		return 0
	}
	return a - b
}

// Digits: a number in decimal.
func Digits(n uint64) string { return strconv.FormatUint(n, 10) }

// Number: the number of digits.
func Number(s string) (uint64, api.Errno) {
	if s == "" || s[0] == '0' && len(s) > 1 {
		return 0, api.ErrForm
	}
	for i := range len(s) { // ahead of the range: ParseUint stops where the number gets too great
		if s[i] < '0' || s[i] > '9' {
			return 0, api.ErrForm
		}
	}
	n, err := strconv.ParseUint(s, 10, 64)
	if err != nil {
		return 0, api.ErrRange
	}
	return n, api.OK
}
