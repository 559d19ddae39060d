// Package num is layer 1: numbers and rows as bytes (see shared/doc/01-num.md).
package num

import (
	"bytes"
	"math"
	"math/bits"

	"cardex/api"
)

const (
	lengthSize = 4              // of the number ahead of a row
	groupBits  = 7              // of a mark's byte
	follows    = 1 << groupBits // set in a mark's byte behind which another one comes
)

// Put tells a number's bytes, the lowest first.
func Put(n uint64, size int) ([]byte, api.Errno) {
	if !isSize(size) || !fits(n, size) {
		return nil, api.ErrArg
	}
	return lowestFirst(n, size), api.OK
}

// Get reads the number of a size that stands at a place.
func Get(b []byte, at, size int) (uint64, api.Errno) {
	if !isSize(size) || !isPlace(b, at) {
		return 0, api.ErrArg
	}
	if len(b)-at < size {
		return 0, api.ErrShort
	}
	var n uint64
	for i, c := range cut(b, at, size) {
		n |= uint64(c) << (8 * i)
	}
	return n, api.OK
}

// Row tells how many bytes there are, and they.
func Row(b []byte) []byte {
	return append(lowestFirst(uint64(len(b)), lengthSize), b...)
}

// GetRow reads the row at a place, of at most so many bytes, and tells the place behind it.
func GetRow(b []byte, at, most int) (row []byte, next int, e api.Errno) {
	length, e := Get(b, at, lengthSize)
	if e != api.OK {
		return nil, 0, e
	}
	// Held against most and b as uint64: an int of 32 bits would not hold every length.
	if most < 0 || length > uint64(most) {
		return nil, 0, api.ErrLimit
	}
	start := at + lengthSize
	if length > uint64(len(b)-start) {
		return nil, 0, api.ErrShort
	}
	part := cut(b, start, int(length))
	return bytes.Clone(part), start + len(part), api.OK
}

// Mark tells a marked number's bytes, the highest group first.
func Mark(n uint32) []byte {
	last := groups(n) - 1
	mark := make([]byte, last+1)
	for i := range mark {
		mark[i] = byte(n>>(groupBits*(last-i))) | follows
	}
	mark[last] &^= follows
	return mark
}

// GetMark reads the marked number at a place, and tells the place behind it.
func GetMark(b []byte, at int) (n uint32, next int, e api.Errno) {
	if !isPlace(b, at) {
		return 0, 0, api.ErrArg
	}
	var sum uint64
	for i, c := range b[at:] {
		// A first group of 0s could be left out: the number would have two marks.
		if i == 0 && c == follows {
			return 0, 0, api.ErrForm
		}
		sum = sum<<groupBits | uint64(c&^follows)
		if sum > math.MaxUint32 {
			return 0, 0, api.ErrForm
		}
		if c&follows == 0 {
			return uint32(sum), at + i + 1, api.OK
		}
	}
	return 0, 0, api.ErrShort
}

func isSize(size int) bool {
	return size == 1 || size == 2 || size == 4 || size == 8
}

// isPlace takes the end of b too: there something may be missing.
func isPlace(b []byte, at int) bool {
	return at >= 0 && at <= len(b)
}

// fits needs no case for the size 8: a shift by all 64 bits leaves 0.
func fits(n uint64, size int) bool {
	return n>>(8*size) == 0
}

func lowestFirst(n uint64, size int) []byte {
	b := make([]byte, size)
	for i := range b {
		b[i] = byte(n >> (8 * i))
	}
	return b
}

// cut is asked only for bytes that are there; the third index keeps the room behind them out of reach.
func cut(b []byte, at, size int) []byte {
	end := at + size
	return b[at:end:end]
}

// groups tells how many groups of bits a mark has: one for 0, which has no bit.
func groups(n uint32) int {
	return max(1, (bits.Len32(n)+groupBits-1)/groupBits)
}
