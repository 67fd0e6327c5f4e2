package frames_test

import (
	"fmt"
	"math"
	"testing"

	"plugboard/api"
	"plugboard/frames"
	"plugboard/packets"
	"plugboard/transactions"
)

// TestP11_3First: the first frames: on a full-speed bus each is a frame, on a
// high-speed bus a tick, of which eight have the same number.
func TestP11_3First(t *testing.T) {
	full, high := newBus(t, api.Full, nil, nil), newBus(t, api.High, nil, nil)
	expectState(t, "a full-speed bus", full, 0, 0, "")
	expectState(t, "a high-speed bus", high, 0, 0, "")
	for i, number := range []uint16{0, 1, 2, 3, 4, 5} {
		full.Frame(nil, 0)
		expectState(t, "a full-speed bus", full, 8*i+8, number, fmt.Sprint(">sof ", number))
	}
	for i, number := range []uint16{0, 0, 0, 0, 0, 0, 0, 0, 1, 1, 1, 1, 1, 1, 1, 1, 2, 2} {
		high.Frame(nil, 0)
		expectState(t, "a high-speed bus", high, i+1, number, fmt.Sprint(">sof ", number))
	}
}

// TestP11_3Around2047: the numbers begin again behind 2047, on buses of both speeds.
func TestP11_3Around2047(t *testing.T) {
	full, high := newBus(t, api.Full, nil, nil), newBus(t, api.High, nil, nil)
	pass(full, 8*2045)
	pass(high, 8*2045)
	for i, number := range []uint16{2045, 2046, 2047, 0, 1, 2} {
		full.Frame(nil, 0)
		expectState(t, "a full-speed bus", full, 8*(2046+i), number, fmt.Sprint(">sof ", number))
		for j := range 8 {
			high.Frame(nil, 0)
			expectState(t, "a high-speed bus", high, 8*(2045+i)+j+1, number, fmt.Sprint(">sof ", number))
		}
	}
}

// TestP11_3All: the numbers of all frames of both buses, up to the last one, as the
// device hears them. Behind it no frame is performed.
func TestP11_3All(t *testing.T) {
	for _, s := range busSpeeds {
		ticks, heard := 0, 0
		device := transactions.Func(func(p packets.Packet) (packets.Packet, bool) {
			heard++
			if p.Pid != api.Sof || int(p.Frame) != ticks/8%2048 {
				t.Errorf("speed %d: behind %d ticks the device hears %s", s, ticks, shown(p))
			}
			return packets.Packet{}, false
		})
		m := &meter{}
		b := newBus(t, s, device, m)
		for ticks < 1048576 {
			if l, sum := b.Frame(nil, 5); len(l) != 0 || sum != 0 {
				t.Fatalf("speed %d: a frame without transactions: %s", s, resultText(l, sum))
			}
			ticks += stepOf(s)
			if b.Ticks() != ticks || int(b.Number()) != (ticks-1)/8%2048 {
				t.Fatalf("speed %d: behind %d ticks: %s", s, ticks, stateText(b))
			}
		}
		if many := 1048576 / stepOf(s); heard != many || m.asked != many {
			t.Errorf("speed %d: %d packets heard, %d sent, in %d frames", s, heard, m.asked, many)
		}
		expectState(t, "the end", b, 1048576, 2047, ">sof 2047")
	}
}

// TestP11_3End: the last frame is performed as all others; behind it nothing happens,
// whatever is asked for, and what was sent last remains.
func TestP11_3End(t *testing.T) {
	for _, s := range busSpeeds {
		g, m := friendly(), &meter{}
		b := newBus(t, s, g, m)
		pass(b, 1048576-stepOf(s))
		expectState(t, "in front of the last frame", b, 1048576-stepOf(s), uint16((1048576-stepOf(s)-1)/8%2048), fmt.Sprint(">sof ", (1048576-2*stepOf(s))/8%2048))
		expectFrame(t, b, []transactions.Try{reads(8), {}}, 12000, "[{1 [1]} {0 []}]; 196")
		heard, asked := len(g.heard), m.asked
		for _, budget := range around(0, 196, 60000) {
			for _, l := range [][]transactions.Try{nil, {reads(8)}, {{}}, samples(), wrong()} {
				if o, sum := b.Frame(l, budget); o != nil || sum != 0 {
					t.Errorf("speed %d: a frame behind the last one: %s", s, resultText(o, sum))
				}
			}
		}
		expectState(t, "behind the last frame", b, 1048576, 2047, ">sof 2047, >in 0.0, <data0 01, >ack")
		if len(g.heard) != heard || m.asked != asked {
			t.Errorf("speed %d: %d packets are heard, and %d sent, behind the last frame", s, len(g.heard)-heard, m.asked-asked)
		}
	}
}

// TestP11_3Trace: what was sent in the last frame alone, in its order, with what the
// device has sent, and with the faults. A frame in which nothing fits has a Sof.
func TestP11_3Trace(t *testing.T) {
	for _, s := range busSpeeds {
		m := &meter{faults: []transactions.Fault{damaged, good, good, lost, unnamed, good, lost}}
		b := newBus(t, s, friendly(), m)
		pairOf := []transactions.Try{reads(8), writes(1, 2)}
		b.Frame(pairOf, 12000)
		expectState(t, "the first frame", b, stepOf(s), 0, ">sof 0!2, >in 0.0, <data0 01, >ack!1, >out 0.0!200, >data0 0102")
		b.Frame(pairOf, 12000)
		next := uint16(stepOf(s) / 8)
		expectState(t, "the second frame", b, 2*stepOf(s), next, fmt.Sprintf(">sof %d!1, >in 0.0, <data0 02, >ack, >out 0.0, >data0 0102, <ack", next))
		b.Frame(pairOf, 121)
		next = uint16(2 * stepOf(s) / 8)
		expectState(t, "the third frame", b, 3*stepOf(s), next, fmt.Sprint(">sof ", next))
		for range 3 {
			expectState(t, "the third frame, once more", b, 3*stepOf(s), next, fmt.Sprint(">sof ", next))
		}
	}
}

// TestP11_3Sof: the Sof with each fault and each answer of a device: an answer is sent,
// and takes a fault, but matters for nothing else.
func TestP11_3Sof(t *testing.T) {
	for _, s := range busSpeeds {
		for i, r := range replies() {
			for _, first := range anyFault {
				for _, second := range anyFault {
					device := func() *gadget { return replying(answer(data(api.Data0, 9)), r) }
					x := newTwins(t, s, device, []transactions.Fault{first, second})
					name := fmt.Sprintf("a Sof with the reply %d, faults %d, %d", i, first, second)
					x.expectFrame(t, name, []transactions.Try{reads(8), writes(1)}, 12000)
					x.expectFrame(t, name+", again", nil, -1)
				}
			}
		}
	}
	b := newBus(t, api.Full, replying(silent, answer(hand(api.Ack))), transactions.NewLine(good, lost))
	expectFrame(t, b, []transactions.Try{reads(8)}, 196, "[{4 []}]; 196")
	expectState(t, "a Sof that is answered", b, 8, 0, ">sof 0, <ack!1, >in 0.0")
}

// TestP11_3Free: the Sof does not count: its time is not that of the budget, nor in the
// sum.
func TestP11_3Free(t *testing.T) {
	for _, s := range busSpeeds {
		l := exact(t, s)
		for _, toSof := range []reply{silent, answer(data(api.Data0, mixed(1024, 1)...))} {
			b := newBus(t, s, replying(silent, toSof), nil)
			if o, sum := b.Frame(l, math.MaxInt); len(o) != len(l) || sum != budgetOf(s) {
				t.Errorf("speed %d: %d of %d transactions, sum %d", s, len(o), len(l), sum)
			}
		}
	}
}

// TestP11_3Meanwhile: the ticks of a frame have begun when its Sof is sent, so the
// device that hears it finds them counted; what was sent is still that of the frame
// before.
func TestP11_3Meanwhile(t *testing.T) {
	for _, s := range busSpeeds {
		var b *frames.Bus
		ticks, before := 0, ""
		device := transactions.Func(func(p packets.Packet) (packets.Packet, bool) {
			expectState(t, "in the middle of a frame, at "+shown(p), b, ticks, uint16((ticks-1)/8%2048), before)
			return hand(api.Ack), p.Pid != api.Sof
		})
		b = newBus(t, s, device, nil)
		for range 30 {
			ticks += stepOf(s)
			b.Frame([]transactions.Try{writes(1), reads(5)}, 500)
			number := (ticks - 1) / 8
			before = fmt.Sprintf(">sof %d, >out 0.0, <ack, >data0 01, <ack, >in 0.0, <ack", number)
			expectState(t, "behind a frame", b, ticks, uint16(number), before)
		}
	}
}

// TestP11_3Nothing: asking changes nothing.
func TestP11_3Nothing(t *testing.T) {
	for _, s := range busSpeeds {
		g, m := friendly(), &meter{}
		b := newBus(t, s, g, m)
		for range 20 {
			b.Frame([]transactions.Try{reads(8)}, 500)
			text, heard, asked := stateText(b), len(g.heard), m.asked
			for range 3 {
				expect(t, "asking again", stateText(b), text)
			}
			if len(g.heard) != heard || m.asked != asked {
				t.Errorf("speed %d: asking sends something", s)
			}
		}
	}
}
