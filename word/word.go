// Package word is layer 1: see shared/doc/01-word.md.
package word

import (
	"broadsheet/api"
)

func isSize(size int) bool {
	return size == 1 || size == 2 || size == 4 || size == 8
}

// spare is how many of 64 bits lie above the lowest bits of a size.
func spare(size int) int {
	return 64 - 8*size
}

func lowest(n uint64, size int) uint64 {
	return n << spare(size) >> spare(size)
}

// Put is a number's bytes.
func Put(n uint64, size int) (string, api.Errno) {
	if !isSize(size) {
		return "", api.ErrKind
	}
	if lowest(n, size) != n {
		return "", api.ErrRange
	}
	b := make([]byte, size)
	for i := range size {
		b[i] = byte(n >> (8 * i))
	}
	return string(b), api.OK
}

// Take is the number whose bytes stand at a place.
func Take(b string, at, size int) (uint64, api.Errno) {
	if !isSize(size) {
		return 0, api.ErrKind
	}
	if at < 0 || at > len(b) {
		return 0, api.ErrRange
	}
	// Subtracted, not added: at + size could overflow.
	if len(b)-at < size {
		return 0, api.ErrShort
	}
	n := uint64(0)
	for i := range size {
		n |= uint64(b[at+i]) << (8 * i)
	}
	return n, api.OK
}

// Sign is the number with a sign of some lowest bits.
func Sign(n uint64, size int) int64 {
	if !isSize(size) {
		return 0
	}
	// The shift back is that of a signed number, so it copies the sign's bit.
	return int64(n<<spare(size)) >> spare(size)
}

// Bits is a number's two's complement.
func Bits(n int64, size int) (uint64, api.Errno) {
	if !isSize(size) {
		return 0, api.ErrKind
	}
	// Only a number in the size's range comes back from its lowest bits.
	if Sign(uint64(n), size) != n {
		return 0, api.ErrRange
	}
	return lowest(uint64(n), size), api.OK
}

// Wide is a number with a sign, by its widest two's complement.
func Wide(n uint64, size int) uint64 {
	return uint64(Sign(n, size))
}
