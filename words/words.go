// Package words reads and writes little-endian integers at byte offsets of a string.
package words

import "math"

// valid tells whether s has an integer field of that size at that offset.
func valid(s string, at, size int) bool {
	switch size {
	case 1, 2, 4, 8:
		// at+size could wrap round; len(s)-size cannot.
		return at >= 0 && at <= len(s)-size
	}
	return false
}

// fits tells whether n can be written into size bytes.
func fits(n uint64, size int) bool {
	// Shifting by all 64 bits leaves 0, so that every n fits into 8 bytes.
	return n>>(8*size) == 0
}

// Get returns the value of the field of the given size at offset at, and whether the field is valid.
func Get(s string, at, size int) (uint64, bool) {
	if !valid(s, at, size) {
		return 0, false
	}
	var n uint64
	for i := range size {
		n |= uint64(s[at+i]) << (8 * i)
	}
	return n, true
}

// Put returns a copy of s whose field of the given size at offset at has the value n, and whether the field is valid and n fits into it.
func Put(s string, at, size int, n uint64) (string, bool) {
	if !valid(s, at, size) || !fits(n, size) {
		return "", false
	}
	b := []byte(s)
	for i := range size {
		b[at+i] = byte(n >> (8 * i))
	}
	return string(b), true
}

// GetInt is Get for values that are ints; 2^63 and more are refused.
func GetInt(s string, at, size int) (int, bool) {
	n, ok := Get(s, at, size)
	if !ok || n > math.MaxInt64 {
		return 0, false
	}
	return int(n), true
}

// PutInt is Put for ints; negative ones are refused.
func PutInt(s string, at, size, n int) (string, bool) {
	if n < 0 {
		return "", false
	}
	return Put(s, at, size, uint64(n))
}
