// Package sum is layer 2, a sum of 32 bits and a quick one of 64: see shared/doc/02-sum.md.
package sum

import (
	"math/bits"
	"strings"

	"outrider/api"
	"outrider/word"
)

const (
	castagnoli = 0x82f63b78
	markSize   = 4
	quickStart = 14695981039346656037
	quickPrime = 1099511628211
)

// Step: what a byte makes of a running sum.
func Step(n uint32, c byte) uint32 {
	i := 0
	n ^= uint32(c)
bit:
	if n&1 == 1 {
		n = n>>1 ^ castagnoli
	} else {
		n >>= 1
	}
	i++
	if i < 8 {
		goto bit
	}
	return n
}

// CRC: the CRC-32C of parts, one behind the other.
func CRC(parts ...string) uint32 {
	n := ^uint32(0)
	for _, p := range parts {
		for i := range len(p) {
			n = Step(n, p[i])
		}
	}
	return ^n
}

// Quick: the FNV-1a of parts, one behind the other.
func Quick(parts ...string) uint64 {
	n := uint64(quickStart)
	for _, p := range parts {
		for i := range len(p) {
			n = (n ^ uint64(p[i])) * quickPrime
		}
	}
	return n
}

// Mark: a text, and its sum behind it.
func Mark(s string) string { return s + tail(s) }

// Check: the text of a marked one.
func Check(s string) (string, api.Errno) {
	if len(s) < markSize {
		return "", api.ErrShort
	}
	text, mark := s[:len(s)-markSize], s[len(s)-markSize:]
	if mark != tail(text) {
		return "", api.ErrSum
	}
	return strings.Clone(text), api.OK // an answer shares no memory with what was handed in
}

// tail: a text's sum in bytes, turned about, since Put has the highest first and a mark the lowest.
func tail(s string) string {
	return word.Put(uint64(bits.ReverseBytes32(CRC(s))), markSize)
}
