// Package digit is layer 1: numbers in bytes, seven bits a byte, the lowest first (see shared/doc/01-digit.md).
package digit

import (
	"math/bits"

	"teasel/api"
)

const (
	width  = 7          // bits of a number in a byte
	goesOn = 1 << width // the bit of a byte behind which another one comes
	most   = 5          // bytes that a number has at most
)

// Put tells the bytes of a number.
func Put(n int) ([]byte, api.Errno) { return Puts(n) }

// Puts tells the bytes of all numbers, one behind the other.
func Puts(l ...int) ([]byte, api.Errno) {
	if !mayBeTold(l...) {
		return nil, api.ErrArg
	}
	b := make([]byte, 0, Size(l...))
	for _, n := range l {
		b = add(b, n)
	}
	return b, api.OK
}

// Take tells the number whose bytes b begins with, and what stands behind them.
func Take(b []byte) (n int, rest []byte, e api.Errno) {
	t := taker{walk{b: b}}
	if n, e = t.number(); e != api.OK {
		return 0, nil, e
	}
	return n, t.rest(), api.OK
}

// Takes tells so many numbers that b begins with, and what stands behind them.
func Takes(b []byte, many int) (l []int, rest []byte, e api.Errno) {
	if many < 0 {
		return nil, nil, api.ErrArg
	}
	t := taker{walk{b: b}}
	if l, e = t.numbers(many); e != api.OK {
		return nil, nil, e
	}
	return l, t.rest(), api.OK
}

// Size tells how many bytes Puts tells.
func Size(l ...int) int {
	if !mayBeTold(l...) {
		return 0
	}
	many := 0
	for _, n := range l {
		many += size(n)
	}
	return many
}

func mayBeTold(l ...int) bool {
	for _, n := range l {
		if n < 0 || n > api.MaxNumber {
			return false
		}
	}
	return true
}

// size tells how many bytes a number needs: 0 has no bits, but a byte.
func size(n int) int {
	return max(1, (bits.Len(uint(n))+width-1)/width)
}

// add puts the bytes of n, which may be told, behind b.
func add(b []byte, n int) []byte {
	last := size(n) - 1
	for i := range last {
		b = append(b, byte(n>>(width*i))|goesOn)
	}
	return append(b, byte(n>>(width*last)))
}
