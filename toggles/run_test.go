package toggles_test

import (
	"testing"

	"plugboard/api"
	"plugboard/toggles"
)

// TestExamples: the table of the chapter.
func TestExamples(t *testing.T) {
	zero := toggles.Receiver{}
	for _, c := range []struct {
		l            []toggles.Exchange
		left, got    string
		sends, hears bool
	}{
		{nil, "1, 2, 3", "", false, false},
		{[]toggles.Exchange{good}, "2, 3", "1", true, true},
		{[]toggles.Exchange{good, noAck}, "2, 3", "1, 2", true, false},
		{[]toggles.Exchange{good, noAck, noData, good}, "3", "1, 2", false, false},
	} {
		s, r := toggles.Run(mustNew(t, numbered(3)...), zero, c.l...)
		if shown(s.Left) != c.left || shown(r.Got) != c.got || s.Toggle != c.sends || r.Toggle != c.hears {
			t.Errorf("%s: %s; %s; %t, %t", losses(c.l), shown(s.Left), shown(r.Got), s.Toggle, r.Toggle)
		}
	}
	s, r := toggles.Run(mustNew(t, numbered(3)...), zero, noAck)
	s, r = toggles.Clear(s, r)
	s, r = toggles.Run(s, r, good)
	if shown(s.Left) != "2, 3" || shown(r.Got) != "1, 1" || !s.Toggle || !r.Toggle {
		t.Errorf("with Clear: %s; %s; %t, %t", shown(s.Left), shown(r.Got), s.Toggle, r.Toggle)
	}
}

// TestP5_5ByDefinition: all lists of a few exchanges, with senders and receivers
// of either toggle, and some packets left and taken.
func TestP5_5ByDefinition(t *testing.T) {
	eachState(3, func(s toggles.Sender, r toggles.Receiver) {
		eachRun(4, func(l []toggles.Exchange) { expectRun(t, s, r, l) })
	})
}

// TestP5_5OddPackets: packets that are empty, equal, or such as New refuses.
func TestP5_5OddPackets(t *testing.T) {
	for _, sends := range either {
		for _, hears := range either {
			eachRun(3, func(l []toggles.Exchange) {
				expectRun(t, toggles.Sender{Toggle: sends, Left: odd()}, toggles.Receiver{Toggle: hears, Got: odd()[2:]}, l)
				expectRun(t, toggles.Sender{Toggle: sends, Left: make([][]byte, 2)}, toggles.Receiver{Toggle: hears}, l)
			})
		}
	}
}

// TestP5_5NothingLeft: exchanges of a sender that has nothing change nothing.
func TestP5_5NothingLeft(t *testing.T) {
	for _, sends := range either {
		for _, hears := range either {
			for _, e := range anything {
				s, r := toggles.Run(toggles.Sender{Toggle: sends}, toggles.Receiver{Toggle: hears, Got: numbered(2)}, e, e, e)
				expectSender(t, "nothing left", s, sends, nil)
				expectReceiver(t, "nothing left", r, hears, numbered(2))
			}
		}
	}
}

// TestP5_5ManyPackets: the most packets, the longest ones, and more than New
// allows, with many exchanges.
func TestP5_5ManyPackets(t *testing.T) {
	var l []toggles.Exchange
	for i := range 3 * toggles.MaxLeft {
		l = append(l, anything[i*i%7%4])
	}
	longest := make([][]byte, toggles.MaxLeft)
	for i := range longest {
		longest[i] = mixed(api.MaxData, i)
	}
	expectRun(t, mustNew(t, longest...), toggles.Receiver{}, l)
	expectRun(t, toggles.Sender{Toggle: true, Left: make([][]byte, 20000)}, toggles.Receiver{Toggle: true, Got: longest}, l)
	expectRun(t, toggles.Sender{Left: numbered(255)}, toggles.Receiver{Toggle: true}, make([]toggles.Exchange, 300))
}

// TestP5_5OneAfterTheOther: a run is its exchanges one after the other, wherever
// it is divided.
func TestP5_5OneAfterTheOther(t *testing.T) {
	eachRun(5, func(l []toggles.Exchange) {
		s, r := toggles.Run(mustNew(t, numbered(3)...), toggles.Receiver{}, l...)
		for i := range len(l) + 1 {
			a, b := toggles.Run(mustNew(t, numbered(3)...), toggles.Receiver{}, l[:i]...)
			a, b = toggles.Run(a, b, l[i:]...)
			expectSender(t, "divided "+losses(l), a, s.Toggle, s.Left)
			expectReceiver(t, "divided "+losses(l), b, r.Toggle, r.Got)
		}
	})
}

// TestP5_5Functions: an exchange does what Offer, Hear and Acknowledge do.
func TestP5_5Functions(t *testing.T) {
	eachState(2, func(s toggles.Sender, r toggles.Receiver) {
		for _, e := range anything {
			a, b := toggles.Run(s, r, e)
			if packet, toggle, ok := toggles.Offer(s); ok && !e.Data {
				r, _ = toggles.Hear(r, toggle, packet)
				if !e.Ack {
					s, _ = toggles.Acknowledge(s)
				}
			}
			expectSender(t, "functions "+losses([]toggles.Exchange{e}), a, s.Toggle, s.Left)
			expectReceiver(t, "functions "+losses([]toggles.Exchange{e}), b, r.Toggle, r.Got)
		}
	})
}
