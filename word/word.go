// Package word provides the 32-bit arithmetic of the machine, and conversions of numbers to bytes and digits, and back.
package word

import (
	"strings"

	"aedicule/api"
)

const digits = "0123456789abcdef"

// An operation takes two numbers and gives one, modulo 2^32.
type operation func(a, b uint32) uint32

// pick returns the operation whose number is fn, from OpAdd to OpSeq; nothing stands at 0, so that numbers are indices.
func pick(fn uint8) operation {
	table := [api.OpSeq + 1]operation{
		api.OpAdd:  func(a, b uint32) uint32 { return a + b },
		api.OpSub:  func(a, b uint32) uint32 { return a - b },
		api.OpMul:  func(a, b uint32) uint32 { return a * b },
		api.OpDivu: divide,
		api.OpRemu: remainder,
		api.OpAnd:  func(a, b uint32) uint32 { return a & b },
		api.OpOr:   func(a, b uint32) uint32 { return a | b },
		api.OpXor:  func(a, b uint32) uint32 { return a ^ b },
		api.OpShl:  func(a, b uint32) uint32 { return a << (b % 32) },
		api.OpShr:  func(a, b uint32) uint32 { return a >> (b % 32) },
		api.OpSar:  func(a, b uint32) uint32 { return uint32(int32(a) >> (b % 32)) },
		api.OpSlt:  func(a, b uint32) uint32 { return truth(int32(a) < int32(b)) },
		api.OpSltu: func(a, b uint32) uint32 { return truth(a < b) },
		api.OpSeq:  func(a, b uint32) uint32 { return truth(a == b) },
	}
	return table[fn]
}

func divide(a, b uint32) uint32 {
	if b == 0 {
		return 1<<32 - 1
	}
	return a / b
}

func remainder(a, b uint32) uint32 {
	if b == 0 {
		return a
	}
	return a % b
}

func truth(is bool) uint32 {
	if is {
		return 1
	}
	return 0
}

// Op returns the result of operation fn on a and b; ErrArg if there is no such operation.
func Op(fn uint8, a, b uint32) (uint32, api.Errno) {
	if fn < api.OpAdd || fn > api.OpSeq {
		return 0, api.ErrArg
	}
	return pick(fn)(a, b), api.OK
}

// A builder joins bytes to a string.
type builder struct{ strings.Builder }

// add appends the bytes. (What Write returns is its length and nil, always.)
func (b *builder) add(l ...byte) { b.Write(l) }

// Put returns v as n bytes, little-endian: ErrArg unless n is from 1 to 4, ErrLong if v needs more.
func Put(v uint32, n int) (string, api.Errno) {
	if n < 1 || n > 4 {
		return "", api.ErrArg
	}
	if uint64(v) >= 1<<(8*n) {
		return "", api.ErrLong
	}
	var b builder
	for i := range n {
		b.add(byte(v >> (8 * i)))
	}
	return b.String(), api.OK
}

// Get returns the number whose 1 to 4 bytes s has, little-endian; ErrArg if it has another number of them.
func Get(s string) (uint32, api.Errno) {
	if len(s) < 1 || len(s) > 4 {
		return 0, api.ErrArg
	}
	var v uint32
	for i := range len(s) {
		v |= uint32(s[i]) << (8 * i)
	}
	return v, api.OK
}

// PutHigh returns v as n bytes, big-endian: ErrArg unless n is 2 or 4, ErrLong if v needs more.
func PutHigh(v uint32, n int) (string, api.Errno) {
	if n != 2 && n != 4 {
		return "", api.ErrArg
	}
	s, e := Put(v, n)
	return reverse(s), e
}

// GetHigh returns the number whose 2 or 4 bytes s has, big-endian; ErrArg if it has another number of them.
func GetHigh(s string) (uint32, api.Errno) {
	if len(s) != 2 && len(s) != 4 {
		return 0, api.ErrArg
	}
	return Get(reverse(s))
}

func reverse(s string) string {
	var b builder
	for i := range len(s) {
		b.add(s[len(s)-1-i])
	}
	return b.String()
}

// Hex returns each byte of s as two hexadecimal digits, the higher one first, in lower case.
func Hex(s string) string {
	var b builder
	b.Grow(2 * len(s))
	for i := range len(s) {
		b.add(digits[s[i]>>4], digits[s[i]&15])
	}
	return b.String()
}

// Unhex returns the bytes whose digits s has, as Hex gives them; ErrArg if s is no such text.
func Unhex(s string) (string, api.Errno) {
	if len(s)%2 != 0 {
		return "", api.ErrArg
	}
	var b builder
	b.Grow(len(s) / 2)
	for i := 0; i < len(s); i += 2 {
		high, low := strings.IndexByte(digits, s[i]), strings.IndexByte(digits, s[i+1])
		if high < 0 || low < 0 {
			return "", api.ErrArg
		}
		b.add(byte(high<<4 | low))
	}
	return b.String(), api.OK
}
