package checks_test

import (
	"math"
	"slices"
	"testing"

	"plugboard/api"
	"plugboard/checks"
)

// sumOf returns the check of bits for a polynomial, which is given by its degree
// and its other powers. It follows the definition to the letter, independently
// of the package: register[p] is the bit of the power p.
func sumOf(degree int, powers []int, bits []byte) uint16 {
	register := slices.Repeat([]byte{1}, degree)
	for _, bit := range bits {
		sum := bit ^ register[degree-1]
		register = append([]byte{0}, register[:degree-1]...)
		if sum == 1 {
			for _, p := range powers {
				register[p] ^= 1
			}
		}
	}
	check := uint16(0)
	for i := range degree {
		check |= uint16(1-register[degree-1-i]) << i
	}
	return check
}

// fiveOf returns the check of the n lowest bits of a number, by definition.
func fiveOf(v uint32, n int) uint8 {
	bits := make([]byte, n)
	for i := range n {
		bits[i] = byte(v >> i & 1)
	}
	return uint8(sumOf(5, []int{2, 0}, bits))
}

// sixteenOf returns the check of bytes, by definition.
func sixteenOf(b []byte) uint16 {
	bits := make([]byte, 0, 8*len(b))
	for _, value := range b {
		for i := range 8 {
			bits = append(bits, value>>i&1)
		}
	}
	return sumOf(16, []int{15, 2, 0}, bits)
}

// strangeWidths are numbers of bits that no function accepts.
func strangeWidths() []int {
	return []int{math.MinInt, math.MinInt32, -64, -32, -24, -5, -1, 30, 31, 32, 33, 63, 64, 65, 256, math.MaxInt32, math.MaxInt}
}

// numbersOf returns some numbers of n bits: the least, the greatest, those with
// one bit, and mixed ones.
func numbersOf(n int) []uint32 {
	most := uint32(1)<<n - 1
	out := []uint32{0, most, most / 3, most / 5, 0x9e3779b9 & most}
	for i := range n {
		out = append(out, 1<<i, most&^(1<<i))
	}
	return out
}

// mixed returns n bytes that differ.
func mixed(n int) []byte {
	out := make([]byte, n)
	for i := range out {
		out[i] = byte(i*i*31 + i*7 + 1)
	}
	return out
}

// sampleBytes are bytes of several lengths, each without its check.
func sampleBytes() [][]byte {
	return [][]byte{
		nil, {0}, {1}, {0x80}, {0xff}, {0, 0}, {0xff, 0xff}, {0, 0, 0, 0}, {1, 2, 3, 4, 5},
		make([]byte, 64), slices.Repeat([]byte{0xff}, 64), mixed(8), mixed(64), mixed(1023), mixed(1024),
	}
}

// mustJoin returns a protected number.
func mustJoin(t *testing.T, v uint32, n int) uint32 {
	t.Helper()
	got, e := checks.Join(v, n)
	if e != api.OK {
		t.Fatalf("Join(%d, %d): error %d", v, n, e)
	}
	return got
}

// flipped returns bytes, one bit of which is changed.
func flipped(b []byte, bit int) []byte {
	out := slices.Clone(b)
	out[bit/8] ^= 1 << (bit % 8)
	return out
}

// refuses reports whether Check finds that bytes are not protected.
func refuses(b []byte) bool {
	got, e := checks.Check(b)
	return e == api.ErrSum && got == nil
}

// tight reports whether the capacity of a slice is its length.
func tight(b []byte) bool { return cap(b) == len(b) }
