package words

import (
	"math/big"
	"testing"
)

const (
	half = uint32(1) << 31
	last = uint32(1<<32 - 1)
)

// edges are the words around which sums, signs and bytes turn over.
var edges = []uint32{
	0, 1, 2, 3, 4, 5, 7, 8, 31, 32, 33, 127, 128, 255, 256, 257, 258,
	1<<15 - 1, 1 << 15, 1<<16 - 1, 1 << 16, 1<<16 + 1, 1<<24 - 1, 1 << 24,
	half - 2, half - 1, half, half + 1, half + 2, 0x01020304, 0x89abcdef, 0xdeadbeef,
	last - 255, last - 2, last - 1, last,
}

// samples are the edges and words spread by a fixed rule, so that every run sees the same ones.
func samples() []uint32 {
	all := append([]uint32(nil), edges...)
	x := uint32(12345)
	for range 200 {
		x = x*1664525 + 1013904223
		all = append(all, x^x>>16)
	}
	return all
}

// signedNumber is the document's definition, by itself: less 2^32 from 2^31 on.
func signedNumber(a uint32) int64 {
	if a >= half {
		return int64(a) - 1<<32
	}
	return int64(a)
}

func modulo(x *big.Int) uint32 {
	return uint32(new(big.Int).Mod(x, big.NewInt(1<<32)).Uint64())
}

func number(a uint32) *big.Int { return new(big.Int).SetUint64(uint64(a)) }

func TestSumsByRow(t *testing.T) { // P1.1
	for _, row := range []struct {
		name   string
		call   func(a, b uint32) uint32
		a, b   uint32
		wanted uint32
	}{
		{name: "Add", call: Add, a: 2, b: 3, wanted: 5},
		{name: "Add", call: Add, a: 0, b: 0, wanted: 0},
		{name: "Add", call: Add, a: last, b: 2, wanted: 1},
		{name: "Add", call: Add, a: half, b: half, wanted: 0},
		{name: "Add", call: Add, a: last, b: last, wanted: last - 1},
		{name: "Sub", call: Sub, a: 5, b: 3, wanted: 2},
		{name: "Sub", call: Sub, a: 0, b: 1, wanted: last},
		{name: "Sub", call: Sub, a: 0, b: half, wanted: half},
		{name: "Sub", call: Sub, a: 0, b: last, wanted: 1},
		{name: "Mul", call: Mul, a: 6, b: 7, wanted: 42},
		{name: "Mul", call: Mul, a: 0, b: last, wanted: 0},
		{name: "Mul", call: Mul, a: 65536, b: 65536, wanted: 0},
		{name: "Mul", call: Mul, a: last, b: last, wanted: 1},
		{name: "Mul", call: Mul, a: half, b: 3, wanted: half},
	} {
		if got := row.call(row.a, row.b); got != row.wanted {
			t.Errorf("%s(%d, %d) is %d, not %d", row.name, row.a, row.b, got, row.wanted)
		}
	}
}

func TestSumsAreModulo(t *testing.T) { // P1.1
	for _, a := range samples() {
		for _, b := range samples() {
			if got, wanted := Add(a, b), modulo(new(big.Int).Add(number(a), number(b))); got != wanted {
				t.Fatalf("Add(%d, %d) is %d, not %d", a, b, got, wanted)
			}
			if got, wanted := Sub(a, b), modulo(new(big.Int).Sub(number(a), number(b))); got != wanted {
				t.Fatalf("Sub(%d, %d) is %d, not %d", a, b, got, wanted)
			}
			if got, wanted := Mul(a, b), modulo(new(big.Int).Mul(number(a), number(b))); got != wanted {
				t.Fatalf("Mul(%d, %d) is %d, not %d", a, b, got, wanted)
			}
		}
	}
}

func TestMovesByRow(t *testing.T) { // P1.2
	for _, row := range []struct {
		name   string
		call   func(a, n uint32) uint32
		a, n   uint32
		wanted uint32
	}{
		{name: "Shl", call: Shl, a: 3, n: 0, wanted: 3},
		{name: "Shl", call: Shl, a: 3, n: 4, wanted: 48},
		{name: "Shl", call: Shl, a: last, n: 31, wanted: half},
		{name: "Shl", call: Shl, a: half, n: 1, wanted: 0},
		{name: "Shl", call: Shl, a: 1, n: 32, wanted: 1},
		{name: "Shl", call: Shl, a: 1, n: 33, wanted: 2},
		{name: "Shl", call: Shl, a: 1, n: half, wanted: 1},
		{name: "Shl", call: Shl, a: 1, n: last, wanted: half},
		{name: "Shr", call: Shr, a: 48, n: 4, wanted: 3},
		{name: "Shr", call: Shr, a: half, n: 31, wanted: 1},
		{name: "Shr", call: Shr, a: last, n: 1, wanted: half - 1},
		{name: "Shr", call: Shr, a: 1, n: 1, wanted: 0},
		{name: "Shr", call: Shr, a: half, n: 32, wanted: half},
		{name: "Shr", call: Shr, a: half, n: 33, wanted: half / 2},
		{name: "Shr", call: Shr, a: last, n: last, wanted: 1},
		{name: "Sar", call: Sar, a: 48, n: 4, wanted: 3},
		{name: "Sar", call: Sar, a: half - 1, n: 30, wanted: 1},
		{name: "Sar", call: Sar, a: half - 1, n: 31, wanted: 0},
		{name: "Sar", call: Sar, a: half, n: 0, wanted: half},
		{name: "Sar", call: Sar, a: half, n: 1, wanted: half + half/2},
		{name: "Sar", call: Sar, a: half, n: 31, wanted: last},
		{name: "Sar", call: Sar, a: half, n: 32, wanted: half},
		{name: "Sar", call: Sar, a: half, n: 63, wanted: last},
		{name: "Sar", call: Sar, a: last, n: last, wanted: last},
	} {
		if got := row.call(row.a, row.n); got != row.wanted {
			t.Errorf("%s(%d, %d) is %d, not %d", row.name, row.a, row.n, got, row.wanted)
		}
	}
}

// movedBitByBit tells each bit of the answer by where it stood before.
func movedBitByBit(a uint32, by int, above bool) uint32 {
	answer := uint32(0)
	for bit := range 32 {
		from := bit + by
		is := above && from > 31
		if from >= 0 && from < 32 {
			is = a/(1<<from)%2 == 1
		}
		if is {
			answer += 1 << bit
		}
	}
	return answer
}

func TestMovesAreByBits(t *testing.T) { // P1.2
	for _, a := range samples() {
		for _, n := range samples() {
			by := int(n % 32)
			if got, wanted := Shl(a, n), movedBitByBit(a, -by, false); got != wanted {
				t.Fatalf("Shl(%d, %d) is %d, not %d", a, n, got, wanted)
			}
			if got, wanted := Shr(a, n), movedBitByBit(a, by, false); got != wanted {
				t.Fatalf("Shr(%d, %d) is %d, not %d", a, n, got, wanted)
			}
			if got, wanted := Sar(a, n), movedBitByBit(a, by, a >= half); got != wanted {
				t.Fatalf("Sar(%d, %d) is %d, not %d", a, n, got, wanted)
			}
		}
	}
}

func TestOrderByRow(t *testing.T) { // P1.3
	for _, row := range []struct {
		a, b        uint32
		less, lessU bool
	}{
		{0, 0, false, false},
		{0, 1, true, true},
		{1, 0, false, false},
		{half, 0, true, false},
		{0, half, false, true},
		{half, half, false, false},
		{half, half - 1, true, false},
		{half - 1, half, false, true},
		{half, last, true, true},
		{last, half, false, false},
		{last, 0, true, false},
		{0, last, false, true},
		{last, last, false, false},
	} {
		if got := Less(row.a, row.b); got != row.less {
			t.Errorf("Less(%d, %d) is %t", row.a, row.b, got)
		}
		if got := LessU(row.a, row.b); got != row.lessU {
			t.Errorf("LessU(%d, %d) is %t", row.a, row.b, got)
		}
	}
}

func TestSign(t *testing.T) { // P1.3
	for _, row := range []struct {
		a      uint32
		wanted int64
	}{
		{0, 0}, {1, 1}, {half - 1, 1<<31 - 1}, {half, -1 << 31}, {half + 1, -1<<31 + 1}, {last - 1, -2}, {last, -1},
	} {
		if got := Sign(row.a); got != row.wanted {
			t.Errorf("Sign(%d) is %d, not %d", row.a, got, row.wanted)
		}
	}
	for _, a := range samples() {
		if got, wanted := Sign(a), signedNumber(a); got != wanted {
			t.Errorf("Sign(%d) is %d, not %d", a, got, wanted)
		}
	}
}

func TestBytesAndWord(t *testing.T) { // P1.4
	for _, row := range []struct {
		a     uint32
		bytes [4]byte
	}{
		{0, [4]byte{}},
		{1, [4]byte{1}},
		{258, [4]byte{2, 1, 0, 0}},
		{0x04030201, [4]byte{1, 2, 3, 4}},
		{half, [4]byte{0, 0, 0, 128}},
		{half - 1, [4]byte{255, 255, 255, 127}},
		{last, [4]byte{255, 255, 255, 255}},
	} {
		if got := Bytes(row.a); got != row.bytes {
			t.Errorf("Bytes(%d) is %v, not %v", row.a, got, row.bytes)
		}
		if got := Word(row.bytes); got != row.a {
			t.Errorf("Word(%v) is %d, not %d", row.bytes, got, row.a)
		}
	}
}

func TestByte(t *testing.T) { // P1.4
	for _, row := range []struct {
		a, n   uint32
		wanted byte
	}{
		{0x04030201, 0, 1}, {0x04030201, 1, 2}, {0x04030201, 2, 3}, {0x04030201, 3, 4},
		{0x04030201, 4, 1}, {0x04030201, 7, 4}, {258, 5, 1},
		{0x04030201, half, 1}, {0x04030201, last - 1, 3}, {0x04030201, last, 4},
		{half, 3, 128}, {last, 2, 255}, {0, last, 0},
	} {
		if got := Byte(row.a, row.n); got != row.wanted {
			t.Errorf("Byte(%d, %d) is %d, not %d", row.a, row.n, got, row.wanted)
		}
	}
}

func TestBytesAgree(t *testing.T) { // P1.5
	for _, a := range samples() {
		all := Bytes(a)
		if got := Word(all); got != a {
			t.Fatalf("Word(Bytes(%d)) is %d", a, got)
		}
		for _, n := range samples() {
			if got := Byte(a, n); got != all[n%4] {
				t.Fatalf("Byte(%d, %d) is %d, its bytes are %v", a, n, got, all)
			}
		}
		other := [4]byte{all[2], all[0], all[3], all[1]}
		if got := Bytes(Word(other)); got != other {
			t.Fatalf("Bytes(Word(%v)) is %v", other, got)
		}
	}
}

func TestSubTakesBackWhatAddGave(t *testing.T) { // P1.5
	for _, a := range samples() {
		for _, b := range samples() {
			if got := Sub(Add(a, b), b); got != a {
				t.Fatalf("Sub(Add(%d, %d), %d) is %d", a, b, b, got)
			}
		}
	}
}

func TestMulByPowerIsShl(t *testing.T) { // P1.5
	for _, a := range samples() {
		power := uint32(1)
		for n := range uint32(32) {
			if Mul(a, power) != Shl(a, n) {
				t.Fatalf("Mul(%d, %d) is %d, Shl(%d, %d) is %d", a, power, Mul(a, power), a, n, Shl(a, n))
			}
			power *= 2
		}
	}
}

func TestLessIsOrderOfSigns(t *testing.T) { // P1.5
	for _, a := range samples() {
		for _, b := range samples() {
			if Less(a, b) != (Sign(a) < Sign(b)) {
				t.Fatalf("Less(%d, %d) is %t, the signs are %d and %d", a, b, Less(a, b), Sign(a), Sign(b))
			}
			if Less(a, b) != (signedNumber(a) < signedNumber(b)) {
				t.Fatalf("Less(%d, %d) is %t", a, b, Less(a, b))
			}
			if LessU(a, b) != (number(a).Cmp(number(b)) < 0) {
				t.Fatalf("LessU(%d, %d) is %t", a, b, LessU(a, b))
			}
		}
	}
}
