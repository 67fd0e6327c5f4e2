package toggles_test

import (
	"testing"

	"plugboard/api"
	"plugboard/toggles"
)

// refused checks that New refuses packets, and returns nothing else.
func refused(t *testing.T, name string, l [][]byte) {
	t.Helper()
	if s, e := toggles.New(l...); e != api.ErrLimit || s.Toggle || s.Left != nil {
		t.Errorf("New of %s: %d, toggle %t, left %s; expected %d", name, e, s.Toggle, brief(s.Left), api.ErrLimit)
	}
}

// TestMaxLeft: the limit that other layers rely on.
func TestMaxLeft(t *testing.T) {
	if toggles.MaxLeft != 4096 {
		t.Errorf("MaxLeft = %d", toggles.MaxLeft)
	}
}

// TestP5_1Packets: the packets of a new sender, in their order, and its toggle.
func TestP5_1Packets(t *testing.T) {
	for _, l := range [][][]byte{
		nil, {}, {nil}, {{}}, {{}, nil, {}}, {one(7)}, {one(0)}, {one(1), one(1)}, {one(2), one(1)},
		numbered(3), {nil, one(5), nil}, {mixed(1024, 1)}, {mixed(1024, 1), mixed(1023, 2), nil, mixed(1024, 3)},
	} {
		expectSender(t, "New", mustNew(t, l...), false, l)
	}
	expectSender(t, "New()", mustNew(t), false, nil)
}

// TestP5_1MostPackets: the greatest number of packets, and one more, whatever
// the packets are.
func TestP5_1MostPackets(t *testing.T) {
	for name, b := range map[string][]byte{"nil": nil, "empty": {}, "a byte": one(9), "most": mixed(1024, 9)} {
		l := make([][]byte, 4098)
		for i := range l {
			l[i] = b
		}
		for _, n := range []int{4095, 4096} {
			expectSender(t, "New of "+name, mustNew(t, l[:n]...), false, l[:n])
		}
		refused(t, "4097 packets: "+name, l[:4097])
		refused(t, "4098 packets: "+name, l)
	}
}

// TestP5_1LongestPackets: a packet of the greatest number of bytes, and of one
// more, alone, and at each place among others.
func TestP5_1LongestPackets(t *testing.T) {
	for _, n := range []int{1025, 1026, 2048, 65536} {
		refused(t, "a long packet", [][]byte{mixed(n, 1)})
		for place := range 5 {
			l := numbered(5)
			l[place] = mixed(1024, 1)
			expectSender(t, "New", mustNew(t, l...), false, l)
			l[place] = mixed(n, 1)
			refused(t, "a long packet among others", l)
		}
	}
	for _, place := range []int{0, 1, 4094, 4095} {
		l := make([][]byte, 4096)
		l[place] = mixed(1025, 1)
		refused(t, "a long packet among the most", l)
	}
}

// TestP5_1Both: too many packets, one of which is too long.
func TestP5_1Both(t *testing.T) {
	for _, place := range []int{0, 4095, 4096} {
		l := make([][]byte, 4097)
		l[place] = mixed(1025, 1)
		refused(t, "too many packets, with a long one", l)
	}
}
