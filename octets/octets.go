// Package octets is layer 1: numbers as bytes, the highest first; bytes with
// bytes; ranges. See shared/doc/01-octets.md.
package octets

import "cofferdam/api"

const (
	maxBytes = 8         // bytes of the greatest number
	maxRange = 65536     // things of a range that is cut
	maxEnd   = 1<<31 - 1 // where a range that is cut may end
)

// Get is the number that bytes stand for.
func Get(b []byte) (uint64, api.Errno) {
	if len(b) < 1 || len(b) > maxBytes {
		return 0, api.ErrArg
	}
	var n uint64
	for _, octet := range b {
		n = n<<8 | uint64(octet)
	}
	return n, api.OK
}

// Put is a number as bytes.
func Put(n uint64, size int) ([]byte, api.Errno) {
	if size < 1 || size > maxBytes || !holds(size, n) {
		return nil, api.ErrArg
	}
	return build(size, func(i int) byte { return byte(n >> (8 * (size - 1 - i))) }), api.OK
}

// Xor is bytes with bytes.
func Xor(a, b []byte) ([]byte, api.Errno) {
	if len(a) != len(b) {
		return nil, api.ErrArg
	}
	return build(len(a), func(i int) byte { return a[i] ^ b[i] }), api.OK
}

// Fits tells whether a range lies within so many things.
func Fits(at, n, size int) bool {
	// at + n may be beyond what an int holds; size - n, of 0 <= n <= size, never is.
	return at >= 0 && n >= 0 && n <= size && at <= size-n
}

// Split cuts a range at all multiples of a step.
func Split(at, n, step int) [][2]int {
	if step < 1 || n > maxRange || !Fits(at, n, maxEnd) {
		return nil
	}
	var parts [][2]int
	for n > 0 {
		count := min(n, step-at%step)
		parts = append(parts, [2]int{at, count})
		at += count
		n -= count
	}
	return parts
}

// holds tells whether so many bytes, 1 to 8, are enough for a number.
func holds(size int, n uint64) bool {
	return n>>(8*size) == 0
}

// build makes bytes one by one, each as the function tells it.
func build(size int, octet func(i int) byte) []byte {
	b := make([]byte, size)
	for i := range b {
		b[i] = octet(i)
	}
	return b
}
