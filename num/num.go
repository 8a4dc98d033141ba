// Package num is layer 1: see shared/doc/01-num.md.
package num

import "copybook/api"

const (
	perByte = 7    // bits of a number in each of its bytes
	follows = 0x80 // the bit that says that another byte follows
	most    = 10   // bytes that the greatest number has
)

// Put: P1.1.
func Put(b []byte, n uint64) []byte { return behind(b, bytesOf(n)...) }

// Get: P1.2.
func Get(b []byte) (uint64, int, api.Errno) {
	size, e := reach(b)
	if e != api.OK {
		return 0, 0, e
	}
	if badEnd(b[size-1], size) {
		return 0, 0, api.ErrForm
	}
	var n uint64
	for i := range size {
		n |= uint64(b[i]&^follows) << (perByte * i)
	}
	return n, size, api.OK
}

// PutInt: P1.1.
func PutInt(b []byte, n int64) []byte { return Put(b, Fold(n)) }

// GetInt: P1.2.
func GetInt(b []byte) (int64, int, api.Errno) {
	n, size, e := Get(b)
	return Unfold(n), size, e
}

// Put4: P1.1.
func Put4(b []byte, n uint32) []byte { return behind(b, fixed(uint64(n), 4)...) }

// Get4: P1.3.
func Get4(b []byte) (uint32, api.Errno) {
	n, e := unfixed(b, 4)
	return uint32(n), e
}

// Put8: P1.1.
func Put8(b []byte, n uint64) []byte { return behind(b, fixed(n, 8)...) }

// Get8: P1.3.
func Get8(b []byte) (uint64, api.Errno) { return unfixed(b, 8) }

// Fold: P1.1.
func Fold(n int64) uint64 {
	// The shift down keeps the sign: all ones below 0, which turn 2n into -2n - 1 and cannot overflow.
	return uint64(n)<<1 ^ uint64(n>>63)
}

// Unfold: P1.1.
func Unfold(n uint64) int64 { return int64(n>>1) ^ -int64(n&1) }

// Size: P1.1.
func Size(n uint64) int {
	size := 1
	for n >= follows {
		n >>= perByte
		size++
	}
	return size
}

// behind never appends to b itself: room left in b's array may be the caller's.
func behind(b []byte, more ...byte) []byte {
	out := make([]byte, 0, len(b)+len(more))
	out = append(out, b...)
	return append(out, more...)
}

func bytesOf(n uint64) []byte {
	out := make([]byte, Size(n))
	last := len(out) - 1
	for i := range last {
		out[i] = byte(n) | follows
		n >>= perByte
	}
	out[last] = byte(n)
	return out
}

// reach tells how many bytes the number that b begins with takes, by their highest bits alone.
func reach(b []byte) (int, api.Errno) {
	for i := range min(len(b), most) {
		if b[i] < follows {
			return i + 1, api.OK
		}
	}
	if len(b) < most {
		return 0, api.ErrShort
	}
	return 0, api.ErrForm
}

// badEnd: a last byte with bits beyond the 64th, or one that fewer bytes would do without.
func badEnd(last byte, size int) bool {
	return size == most && last > 1 || size > 1 && last == 0
}

func fixed(n uint64, width int) []byte {
	out := make([]byte, width)
	for i := range width {
		out[i] = byte(n >> (8 * i))
	}
	return out
}

func unfixed(b []byte, width int) (uint64, api.Errno) {
	if len(b) < width {
		return 0, api.ErrShort
	}
	var n uint64
	for i := range width {
		n |= uint64(b[i]) << (8 * i)
	}
	return n, api.OK
}
