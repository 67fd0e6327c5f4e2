package toggles_test

import (
	"bytes"
	"testing"

	"plugboard/api"
	"plugboard/toggles"
)

// expectNothing checks that a sender offers nothing, and cannot be acknowledged.
func expectNothing(t *testing.T, s toggles.Sender) {
	t.Helper()
	if b, toggle, ok := toggles.Offer(s); len(b) > 0 || toggle || ok {
		t.Errorf("Offer of nothing, toggle %t = %v, %t, %t", s.Toggle, b, toggle, ok)
	}
	if next, e := toggles.Acknowledge(s); e != api.ErrNone || next.Toggle || next.Left != nil {
		t.Errorf("Acknowledge of nothing, toggle %t = %t, %s, %d", s.Toggle, next.Toggle, brief(next.Left), e)
	}
}

// expectFirst checks that a sender offers its first packet, and what it is behind
// an acknowledgement.
func expectFirst(t *testing.T, s toggles.Sender) toggles.Sender {
	t.Helper()
	if b, toggle, ok := toggles.Offer(s); !bytes.Equal(b, s.Left[0]) || toggle != s.Toggle || !ok {
		t.Errorf("Offer of %s, toggle %t = %v, %t, %t", brief(s.Left), s.Toggle, b, toggle, ok)
	}
	next, e := toggles.Acknowledge(s)
	if e != api.OK {
		t.Errorf("Acknowledge of %s: error %d", brief(s.Left), e)
	}
	expectSender(t, "Acknowledge", next, !s.Toggle, s.Left[1:])
	return next
}

// TestP5_2Example: the result that the chapter lists.
func TestP5_2Example(t *testing.T) {
	if _, e := toggles.Acknowledge(toggles.Sender{}); e != api.ErrNone {
		t.Errorf("Acknowledge of the zero Sender: %d", e)
	}
}

// TestP5_2Nothing: senders of either toggle that have no packet.
func TestP5_2Nothing(t *testing.T) {
	for _, toggle := range either {
		expectNothing(t, toggles.Sender{Toggle: toggle})
		expectNothing(t, toggles.Sender{Toggle: toggle, Left: [][]byte{}})
		expectNothing(t, toggles.Sender{Toggle: toggle, Left: numbered(3)[:0]})
	}
	expectNothing(t, mustNew(t))
}

// TestP5_2First: senders of either toggle with some packets, also empty ones and
// such as New refuses, until none is left.
func TestP5_2First(t *testing.T) {
	for _, toggle := range either {
		for _, l := range [][][]byte{{nil}, {{}}, {one(0)}, {one(1), one(1)}, numbered(5), odd(), make([][]byte, 4097)} {
			s := toggles.Sender{Toggle: toggle, Left: l}
			for range min(len(l), 9) {
				s = expectFirst(t, s)
			}
			if len(l) <= 9 {
				expectNothing(t, s)
			}
		}
	}
}

// TestP5_2Again: what is offered stays the same until it is acknowledged.
func TestP5_2Again(t *testing.T) {
	s := mustNew(t, numbered(3)...)
	for range 3 {
		if b, toggle, ok := toggles.Offer(s); shown([][]byte{b}) != "1" || toggle || !ok {
			t.Errorf("Offer = %v, %t, %t", b, toggle, ok)
		}
	}
	expectSender(t, "Offer", s, false, numbered(3))
}
