package checks_test

import (
	"bytes"
	"math/bits"
	"slices"
	"testing"

	"plugboard/api"
	"plugboard/checks"
)

// mostProtected is the number of protected bytes up to which all changes that
// the promise names are found: those of the greatest packet of data.
const mostProtected = 1026

// TestP2_3Inverse: Part inverts Join, and Check inverts Add.
func TestP2_3Inverse(t *testing.T) {
	for n := range checks.MaxBits + 1 {
		for _, v := range numbersOf(n) {
			if got, e := checks.Part(mustJoin(t, v, n), n+5); e != api.OK || got != v {
				t.Errorf("Part of what Join(%d, %d) returns = %d, %d", v, n, got, e)
			}
		}
	}
	for _, b := range sampleBytes() {
		if got, e := checks.Check(checks.Add(b)); e != api.OK || !bytes.Equal(got, b) {
			t.Errorf("Check of what Add of %x returns = %x, %d", b, got, e)
		}
	}
}

// TestP2_3ChangedNumbers: all changes of one or two bits, and all of bits that
// are at most four places apart, of protected numbers of all widths.
func TestP2_3ChangedNumbers(t *testing.T) {
	for n := 5; n <= checks.MaxBits+5; n++ {
		var changes []uint32
		for i := range n {
			for j := i; j < n; j++ {
				changes = append(changes, 1<<i|1<<j)
			}
			for burst := uint32(1); burst < 32; burst += 2 {
				if bits.Len32(burst)+i <= n {
					changes = append(changes, burst<<i)
				}
			}
		}
		for _, v := range numbersOf(n - 5) {
			joined := mustJoin(t, v, n-5)
			for _, change := range changes {
				if got, e := checks.Part(joined^change, n); e != api.ErrSum || got != 0 {
					t.Errorf("Part(%d ^ %d, %d) = %d, %d", joined, change, n, got, e)
				}
			}
		}
	}
}

// TestP2_3TwoBitsOfBytes: all changes of one or two bits of a few bytes.
func TestP2_3TwoBitsOfBytes(t *testing.T) {
	for _, front := range [][]byte{nil, {7}, []byte("123456789"), mixed(30)} {
		b := checks.Add(front)
		for i := range 8 * len(b) {
			one := flipped(b, i)
			if !refuses(one) {
				t.Errorf("%x is protected, but bit %d is changed", b, i)
			}
			for j := range i {
				if !refuses(flipped(one, j)) {
					t.Errorf("%x is protected, but bits %d and %d are changed", b, j, i)
				}
			}
		}
	}
}

// TestP2_3TwoBitsOfManyBytes: changes of one bit anywhere, and of two bits at all
// distances, of as many bytes as the promise names.
func TestP2_3TwoBitsOfManyBytes(t *testing.T) {
	b := checks.Add(mixed(mostProtected - 2))
	last := 8*len(b) - 1
	for i := range 8 * len(b) {
		if !refuses(flipped(b, i)) {
			t.Errorf("bit %d is changed", i)
		}
		if i > 0 && !refuses(flipped(flipped(b, 0), i)) {
			t.Errorf("bits 0 and %d are changed", i)
		}
		if i < last && !refuses(flipped(flipped(b, i), last)) {
			t.Errorf("bits %d and %d are changed", i, last)
		}
	}
}

// TestP2_3OddNumbersOfBits: all changes of an odd number of bits of three
// protected bytes, and some of more bytes.
func TestP2_3OddNumbersOfBits(t *testing.T) {
	b := checks.Add([]byte{7})
	for change := range 1 << 24 {
		if bits.OnesCount(uint(change))%2 == 0 {
			continue
		}
		c := [3]byte{b[0] ^ byte(change), b[1] ^ byte(change>>8), b[2] ^ byte(change>>16)}
		if !refuses(c[:]) {
			t.Fatalf("%x is protected, but bits %x are changed", b, change)
		}
	}
	for _, n := range []int{2, 3, 10, 66, 500, mostProtected} {
		b := checks.Add(mixed(n - 2))
		for step := 1; step < 60; step++ {
			changed := slices.Clone(b)
			changes := 0
			for bit := step % 5; bit < 8*n; bit += step {
				changed[bit/8] ^= 1 << (bit % 8)
				changes++
			}
			if changes%2 == 0 {
				changed = flipped(changed, 0)
			}
			if !refuses(changed) {
				t.Errorf("of %d bytes an odd number of bits is changed, %d apart", n, step)
			}
		}
	}
}

// burst returns protected bytes in which the bits of a pattern are changed,
// beginning with the bit at a place.
func burst(b []byte, place int, pattern uint32) []byte {
	out := slices.Clone(b)
	for i := range bits.Len32(pattern) {
		if pattern>>i&1 == 1 {
			out[(place+i)/8] ^= 1 << ((place + i) % 8)
		}
	}
	return out
}

// TestP2_3Bursts: all changes of bits that are at most 15 places apart, at each
// place of a few bytes, and at some places of many.
func TestP2_3Bursts(t *testing.T) {
	for _, n := range []int{2, 3, 4, 5, mostProtected} {
		b := checks.Add(mixed(n - 2))
		step, each := 1, uint32(2)
		if n == mostProtected {
			step, each = 251, 1022
		}
		for place := 0; place < 8*n; place += step {
			for pattern := uint32(1); pattern < 1<<16; pattern += each {
				if place+bits.Len32(pattern) > 8*n {
					break
				}
				if !refuses(burst(b, place, pattern)) {
					t.Fatalf("of %d bytes bits %x from %d on are changed", n, pattern, place)
				}
			}
		}
	}
}

// TestP2_3Undetected: what the promise does not name may pass: the polynomial
// itself is one place too long, and leaves numbers and bytes protected. So the
// changes above are the most that the polynomials allow for.
func TestP2_3Undetected(t *testing.T) {
	joined := mustJoin(t, 1813, 11)
	for place := range 16 - 5 {
		change := uint32(0b101001) << place // x^5 + x^2 + 1, the highest power first
		if _, e := checks.Part(joined^change, 16); e != api.OK {
			t.Errorf("Part(%d ^ %d, 16): error %d", joined, change, e)
		}
	}
	b := checks.Add([]byte("123456789"))
	for place := range 8*len(b) - 16 {
		if refuses(burst(b, place, 0b1_0100_0000_0000_0011)) { // x^16 + x^15 + x^2 + 1
			t.Errorf("bytes to which the polynomial is added at %d are not protected", place)
		}
	}
}
