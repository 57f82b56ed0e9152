// Package code is layer 1: numbers, texts, lists as bytes; see shared/doc/01-code.md.
package code

import "buttery/api"

// longest is how many bytes a number has at most: 64 bits, seven a byte.
const longest = 10

// Num writes a number.
func Num(b []byte, n int64) []byte {
	return put(copied(b, longest), fold(n))
}

// Count writes a count.
func Count(b []byte, n int) []byte {
	if n < 0 || n > api.MaxCount {
		return copied(b, 0)
	}
	return put(copied(b, longest), uint64(n))
}

// Str writes a text.
func Str(b []byte, s string) []byte {
	if len(s) > api.MaxCount {
		return copied(b, 0)
	}
	return append(put(copied(b, longest+len(s)), uint64(len(s))), s...)
}

// Flag writes a truth value.
func Flag(b []byte, v bool) []byte {
	var x byte
	if v {
		x = 1
	}
	return append(copied(b, 1), x)
}

// copied is b in new memory, with room for more behind it: appending to b itself
// could write into memory that is the caller's.
func copied(b []byte, more int) []byte {
	return append(make([]byte, 0, len(b)+more), b...)
}

// put appends u, seven bits a byte, the lowest first.
func put(b []byte, u uint64) []byte {
	for u >= 128 {
		b = append(b, byte(u)|128)
		u >>= 7
	}
	return append(b, byte(u))
}

// fold gives each number one that is not below 0, so that those near 0 are short
// whatever their sign. It adds 1 ahead of turning the sign, since -n of the least
// number there is would be itself.
func fold(n int64) uint64 {
	if n < 0 {
		return 2*uint64(-(n+1)) + 1
	}
	return 2 * uint64(n)
}

// unfold undoes fold.
func unfold(u uint64) int64 {
	half := int64(u / 2)
	if u%2 == 1 {
		return -half - 1
	}
	return half
}
