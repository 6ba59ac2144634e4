// Package words is layer 1: see shared/doc/01-words.md.
package words

import "iter"

const (
	wordBits  = 32
	wordBytes = 4
	byteBits  = 8
)

// signed is a word as a number with a sign.
type signed int32

func (s signed) number() int64 { return int64(s) }

func (s signed) below(other signed) bool { return s < other }

const (
	up   = true
	down = false
)

// Add: P1.1.
func Add(a, b uint32) uint32 { return a + b }

// Sub: P1.1.
func Sub(a, b uint32) uint32 { return a - b }

// Mul: P1.1.
func Mul(a, b uint32) uint32 { return a * b }

// Shl: P1.2.
func Shl(a, n uint32) uint32 { return moved(a, n, up) }

// Shr: P1.2.
func Shr(a, n uint32) uint32 { return moved(a, n, down) }

// Sar: P1.2.
func Sar(a, n uint32) uint32 { return uint32(moved(signed(a), n, down)) }

// Less: P1.3.
func Less(a, b uint32) bool { return signed(a).below(signed(b)) }

// LessU: P1.3.
func LessU(a, b uint32) bool { return a < b }

// Sign: P1.3.
func Sign(a uint32) int64 { return signed(a).number() }

// Bytes: P1.4.
func Bytes(a uint32) [4]byte {
	var all [wordBytes]byte
	for n, b := range eachByte(a) {
		all[n] = b
	}
	return all
}

// Word: P1.4.
func Word(b [4]byte) uint32 {
	word := uint32(0)
	for n, x := range b {
		word |= Shl(uint32(x), byteBits*uint32(n))
	}
	return word
}

// Byte: P1.4.
func Byte(a, n uint32) byte {
	place := leftBy(wordBytes)
	return byte(Shr(a, byteBits*place(n)))
}

// moved leaves it to the type what comes from above on the way down: noughts, or the highest bit of a number with a sign.
func moved[T uint32 | signed](a T, n uint32, to bool) T {
	by := leftBy(wordBits)
	if to == up {
		return a << by(n)
	}
	return a >> by(n)
}

// leftBy makes a function that tells what is left of a number modulo of.
func leftBy(of uint32) func(uint32) uint32 {
	return func(n uint32) uint32 { return n % of }
}

// eachByte goes over a word's bytes, the lowest first.
func eachByte(a uint32) iter.Seq2[int, byte] {
	return func(yield func(int, byte) bool) {
		for n := range wordBytes {
			if !yield(n, Byte(a, uint32(n))) {
				return
			}
		}
	}
}
