package checks_test

import (
	"bytes"
	"testing"

	"plugboard/api"
	"plugboard/checks"
)

// TestP2_2Known: checks that are known, from the examples of the chapter and
// from the packets that the chapter on packets lists.
func TestP2_2Known(t *testing.T) {
	for _, c := range []struct {
		bytes, added string
		sixteen      uint16
	}{
		{"", "\x00\x00", 0},
		{"123456789", "123456789\xc8\xb4", 46280},
		{"\x00", "\x00\x40\xbf", 0xbf40},
	} {
		b := []byte(c.bytes)
		if got := checks.Sixteen(b); got != c.sixteen {
			t.Errorf("Sixteen of %x = %d; expected %d", b, got, c.sixteen)
		}
		if got := checks.Add(b); string(got) != c.added || !tight(got) {
			t.Errorf("Add of %x = %x, capacity %d; expected %x", b, got, cap(got), c.added)
		}
		got, e := checks.Check([]byte(c.added))
		if e != api.OK || string(got) != c.bytes || !tight(got) {
			t.Errorf("Check of %x = %x, %d, capacity %d", c.added, got, e, cap(got))
		}
	}
}

// expectSixteen compares Sixteen, Add and Check with the definition.
func expectSixteen(t *testing.T, b []byte) {
	t.Helper()
	sum := sixteenOf(b)
	if got := checks.Sixteen(b); got != sum {
		t.Errorf("Sixteen of %x = %d; expected %d", b, got, sum)
	}
	added := append(bytes.Clone(b), byte(sum&255), byte(sum>>8))
	if got := checks.Add(b); !bytes.Equal(got, added) {
		t.Errorf("Add of %x = %x; expected %x", b, got, added)
	}
	if got, e := checks.Check(added); e != api.OK || !bytes.Equal(got, b) {
		t.Errorf("Check of %x = %x, %d; expected %x", added, got, e, b)
	}
}

// TestP2_2ByDefinition: all bytes, all pairs of bytes, and longer ones.
func TestP2_2ByDefinition(t *testing.T) {
	for _, b := range sampleBytes() {
		expectSixteen(t, b)
	}
	for x := range 256 {
		expectSixteen(t, []byte{byte(x)})
		for y := range 256 {
			expectSixteen(t, []byte{byte(x), byte(y)})
		}
	}
}

// TestP2_2AnyLength: there is no limit to the number of bytes.
func TestP2_2AnyLength(t *testing.T) {
	for _, n := range []int{1025, 1026, 1027, 5000} {
		expectSixteen(t, mixed(n))
	}
}

// TestP2_2CheckWidth: fewer than two bytes, whatever they are.
func TestP2_2CheckWidth(t *testing.T) {
	if got, e := checks.Check(nil); e != api.ErrWidth || got != nil {
		t.Errorf("Check of no bytes = %x, %d", got, e)
	}
	for x := range 256 {
		if got, e := checks.Check([]byte{byte(x)}); e != api.ErrWidth || got != nil {
			t.Errorf("Check of %d = %x, %d", x, got, e)
		}
	}
}

// TestP2_2CheckSums: of all last two bytes, exactly one pair is the check.
func TestP2_2CheckSums(t *testing.T) {
	for _, front := range [][]byte{nil, {7}, []byte("123456789")} {
		added := checks.Add(front)
		n := len(front)
		for x := range 1 << 16 {
			b := append(bytes.Clone(front), byte(x), byte(x>>8))
			got, e := checks.Check(b)
			protected := b[n] == added[n] && b[n+1] == added[n+1]
			if protected && (e != api.OK || !bytes.Equal(got, front)) {
				t.Errorf("Check of %x = %x, %d; expected %x", b, got, e, front)
			}
			if !protected && (e != api.ErrSum || got != nil) {
				t.Errorf("Check of %x = %x, %d; expected ErrSum", b, got, e)
			}
		}
	}
}
