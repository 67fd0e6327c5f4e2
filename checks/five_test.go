package checks_test

import (
	"testing"

	"plugboard/api"
	"plugboard/checks"
)

// TestP2_1MaxBits: the number that other layers rely on.
func TestP2_1MaxBits(t *testing.T) {
	if checks.MaxBits != 24 {
		t.Errorf("MaxBits = %d", checks.MaxBits)
	}
}

// TestP2_1Known: checks that are known, from the examples of the chapter and
// from the packets that the chapter on packets lists.
func TestP2_1Known(t *testing.T) {
	const split = 0xdc0281 // the bytes 129, 2, 220
	for _, c := range []struct {
		v      uint32
		n      int
		five   uint8
		joined uint32
	}{
		{0, 0, 0, 0},
		{1, 1, 16, 33},
		{0, 1, 4, 8},
		{1813, 11, 29, 61205}, // the bytes 21, 239
		{1, 11, 29, 0xe801},   // the bytes 1, 232
		{split & (1<<19 - 1), 19, split >> 19, split},
	} {
		if got, e := checks.Five(c.v, c.n); e != api.OK || got != c.five {
			t.Errorf("Five(%d, %d) = %d, %d; expected %d", c.v, c.n, got, e, c.five)
		}
		if got, e := checks.Join(c.v, c.n); e != api.OK || got != c.joined {
			t.Errorf("Join(%d, %d) = %d, %d; expected %d", c.v, c.n, got, e, c.joined)
		}
		if got, e := checks.Part(c.joined, c.n+5); e != api.OK || got != c.v {
			t.Errorf("Part(%d, %d) = %d, %d; expected %d", c.joined, c.n+5, got, e, c.v)
		}
	}
}

// expectFive compares Five, Join and Part with the definition.
func expectFive(t *testing.T, v uint32, n int) {
	t.Helper()
	five := fiveOf(v, n)
	if got, e := checks.Five(v, n); e != api.OK || got != five {
		t.Errorf("Five(%d, %d) = %d, %d; expected %d", v, n, got, e, five)
	}
	joined := v | uint32(five)<<n
	if got, e := checks.Join(v, n); e != api.OK || got != joined {
		t.Errorf("Join(%d, %d) = %d, %d; expected %d", v, n, got, e, joined)
	}
	if got, e := checks.Part(joined, n+5); e != api.OK || got != v {
		t.Errorf("Part(%d, %d) = %d, %d; expected %d", joined, n+5, got, e, v)
	}
}

// TestP2_1ByDefinition: all numbers of few bits, and some of each other width.
func TestP2_1ByDefinition(t *testing.T) {
	for n := range checks.MaxBits + 1 {
		if n <= 11 {
			for v := range uint32(1) << n {
				expectFive(t, v, n)
			}
		}
		for _, v := range numbersOf(n) {
			expectFive(t, v, n)
		}
	}
}

// expectErrors compares the errors of Five and Join, and that of Part, with
// those that are expected; with an error the result is 0.
func expectErrors(t *testing.T, v uint32, n int, whole, part api.Errno) {
	t.Helper()
	if got, e := checks.Five(v, n); e != whole || e != api.OK && got != 0 {
		t.Errorf("Five(%d, %d) = %d, %d; expected error %d", v, n, got, e, whole)
	}
	if got, e := checks.Join(v, n); e != whole || e != api.OK && got != 0 {
		t.Errorf("Join(%d, %d) = %d, %d; expected error %d", v, n, got, e, whole)
	}
	if got, e := checks.Part(v, n); e != part || e != api.OK && got != 0 {
		t.Errorf("Part(%d, %d) = %d, %d; expected error %d", v, n, got, e, part)
	}
}

// TestP2_1Widths: a number of bits that is negative, or too great, whatever the
// number is.
func TestP2_1Widths(t *testing.T) {
	for _, n := range strangeWidths() {
		for _, v := range []uint32{0, 1, 8, 1<<24 - 1, 1<<29 - 1, 1 << 29, 1<<32 - 1} {
			expectErrors(t, v, n, api.ErrArg, api.ErrArg)
		}
	}
	for n := checks.MaxBits + 1; n <= checks.MaxBits+5; n++ {
		joined := mustJoin(t, 1813, n-5)
		expectErrors(t, joined, n, api.ErrArg, api.OK)
		expectErrors(t, joined^1, n, api.ErrArg, api.ErrSum)
	}
	// One bit more would be protected as well, if there were so many.
	v := uint32(1<<25 - 1)
	expectErrors(t, v|uint32(fiveOf(v, 25))<<25, 30, api.ErrArg, api.ErrArg)
}

// TestP2_1TooGreat: a number that is not less than 2^n; the greatest that is less
// is accepted. Part names this before a width below five and a wrong check.
func TestP2_1TooGreat(t *testing.T) {
	for n := range checks.MaxBits + 5 + 1 {
		for _, v := range []uint32{1 << n, 1<<n + 1, 1<<n | 1<<31, 1<<32 - 1} {
			expectErrors(t, v, n, api.ErrArg, api.ErrArg)
		}
		if n > checks.MaxBits {
			continue
		}
		if _, e := checks.Five(1<<n-1, n); e != api.OK {
			t.Errorf("Five(2^%d - 1, %d): error %d", n, n, e)
		}
		joined := mustJoin(t, 1<<n-1, n)
		if got, e := checks.Part(joined|1<<(n+5), n+5); e != api.ErrArg || got != 0 {
			t.Errorf("Part of a protected number of %d bits and one bit above them = %d, %d", n+5, got, e)
		}
	}
}

// TestP2_1PartOfFewBits: all numbers of fewer than five bits.
func TestP2_1PartOfFewBits(t *testing.T) {
	for n := range 5 {
		for v := range uint32(1) << n {
			if got, e := checks.Part(v, n); e != api.ErrWidth || got != 0 {
				t.Errorf("Part(%d, %d) = %d, %d", v, n, got, e)
			}
		}
	}
}

// TestP2_1PartSums: of all numbers of a width, exactly those that are joined are
// protected.
func TestP2_1PartSums(t *testing.T) {
	if got, e := checks.Part(61204, 16); e != api.ErrSum || got != 0 {
		t.Errorf("Part(61204, 16) = %d, %d", got, e)
	}
	for n := 5; n <= 16; n++ {
		for v := range uint32(1) << n {
			bits := v & (1<<(n-5) - 1)
			protected := mustJoin(t, bits, n-5) == v
			got, e := checks.Part(v, n)
			if protected && (e != api.OK || got != bits) {
				t.Errorf("Part(%d, %d) = %d, %d; expected %d", v, n, got, e, bits)
			}
			if !protected && (e != api.ErrSum || got != 0) {
				t.Errorf("Part(%d, %d) = %d, %d; expected ErrSum", v, n, got, e)
			}
		}
	}
}
