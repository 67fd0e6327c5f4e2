package speeds_test

import (
	"math/rand"
	"testing"

	"plugboard/api"
	"plugboard/levels"
	"plugboard/speeds"
)

// expectWorst compares Worst with what is expected.
func expectWorst(t *testing.T, n, want int, e api.Errno) {
	t.Helper()
	if got, f := speeds.Worst(n); got != want || f != e {
		t.Errorf("Worst(%d) = %d, %d; expected %d, %d", n, got, f, want, e)
	}
}

// TestP4_1Examples: the results that the chapter lists.
func TestP4_1Examples(t *testing.T) {
	expectWorst(t, 1, 20, api.OK)
	expectWorst(t, 3, 39, api.OK)
	expectWorst(t, 67, 636, api.OK)
	expectWorst(t, 0, 0, api.ErrArg)
	expectWorst(t, 1028, 0, api.ErrArg)
}

// TestP4_1Ends: the least and the greatest number of bytes, and their neighbours.
func TestP4_1Ends(t *testing.T) {
	expectWorst(t, 2, 8+16+2+3, api.OK) // 17 bits 1, behind six of which a bit is inserted twice
	expectWorst(t, 4, 8+32+5+3, api.OK)
	expectWorst(t, 1026, 8+8208+1368+3, api.OK)
	expectWorst(t, 1027, 8+8216+1369+3, api.OK)
	for _, n := range append(farInts(), 1028, 1029) {
		expectWorst(t, n, 0, api.ErrArg)
	}
}

// mostStates returns the greatest number of states of all packets with as many
// bytes as the index says. It tries both values of each bit behind each number
// of bits 1 in succession, so that no packet is left out.
func mostStates() []int {
	const never = -1
	out := []int{0}
	inserted := [6]int{never, 0, never, never, never, never} // by the bits 1 in succession; the sync ends with one
	for bit := 1; bit <= 8*levels.MaxPacket; bit++ {
		next := [6]int{never, never, never, never, never, never}
		for ones, most := range inserted {
			if most == never {
				continue
			}
			next[0] = max(next[0], most)
			if ones == 5 {
				next[0] = max(next[0], most+1)
			} else {
				next[ones+1] = max(next[ones+1], most)
			}
		}
		inserted = next
		if bit%8 == 0 {
			most := 0
			for _, i := range inserted {
				most = max(most, i)
			}
			out = append(out, 8+bit+most+3)
		}
	}
	return out
}

// TestP4_1NoneIsLonger: Worst is the greatest number of states of all packets.
func TestP4_1NoneIsLonger(t *testing.T) {
	for n, want := range mostStates() {
		if n > 0 {
			expectWorst(t, n, want, api.OK)
		}
	}
}

// TestP4_7Reached: of each number of bytes there is a packet that has as many
// states as Worst says.
func TestP4_7Reached(t *testing.T) {
	for n := 1; n <= levels.MaxPacket; n++ {
		expectWorst(t, n, longest(t, n), api.OK)
	}
}

// TestP4_7NotExceeded: no packet has more states than Worst says: all of one and
// of two bytes, and some of each other number of bytes.
func TestP4_7NotExceeded(t *testing.T) {
	check := func(b []byte) {
		l, e := levels.Send(b)
		if most, f := speeds.Worst(len(b)); e != api.OK || f != api.OK || len(l) > most {
			t.Errorf("%x has %d states; Worst(%d) = %d, %d", b, len(l), len(b), most, f)
		}
	}
	for x := range 1 << 8 {
		check([]byte{byte(x)})
	}
	for x := range 1 << 16 {
		check([]byte{byte(x), byte(x >> 8)})
	}
	source := rand.New(rand.NewSource(4))
	for n := 3; n <= levels.MaxPacket; n++ {
		b := make([]byte, n)
		for i := range b {
			b[i] = byte(source.Intn(256) | source.Intn(256) | source.Intn(256)) // mostly bits 1
		}
		check(b)
	}
}
