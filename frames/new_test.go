package frames_test

import (
	"fmt"
	"testing"

	"plugboard/api"
	"plugboard/frames"
	"plugboard/packets"
	"plugboard/transactions"
)

// TestP11_1Speeds: all numbers of speeds, with and without a device and a wire.
func TestP11_1Speeds(t *testing.T) {
	for n := range 256 {
		s := api.Speed(n)
		for _, withDevice := range either {
			for _, withWire := range either {
				var d transactions.Device
				var w transactions.Wire
				g, m := friendly(), &meter{}
				if withDevice {
					d = g
				}
				if withWire {
					w = m
				}
				b, e := frames.New(s, d, w)
				name := fmt.Sprintf("New with the speed %d, a device %t, a wire %t", n, withDevice, withWire)
				if len(g.heard) > 0 || m.asked > 0 {
					t.Errorf("%s: something is sent", name)
				}
				if s != api.High && s != api.Full {
					if b != nil || e != api.ErrArg {
						t.Errorf("%s: error %d", name, e)
					}
					continue
				}
				if b == nil || e != api.OK {
					t.Errorf("%s: error %d", name, e)
					continue
				}
				expectState(t, name, b, 0, 0, "")
			}
		}
	}
}

// TestP11_1Attached: what is attached hears the packets, and the wire that was passed
// loses them.
func TestP11_1Attached(t *testing.T) {
	for _, s := range busSpeeds {
		g, m := friendly(), &meter{faults: []transactions.Fault{good, good, lost}}
		b := newBus(t, s, g, m)
		expectFrame(t, b, []transactions.Try{reads(8), reads(8)}, 1000, "[{4 []} {1 [2]}]; 392")
		expect(t, "heard", heardText(g.heard), "sof 0, in 0.0, in 0.0, ack")
		if m.asked != 6 {
			t.Errorf("%d packets on the wire", m.asked)
		}
		expectFrame(t, newBus(t, s, nil, m), []transactions.Try{reads(8)}, 1000, "[{4 []}]; 196")
		if m.asked != 8 {
			t.Errorf("%d packets on the wire", m.asked)
		}
		expectFrame(t, newBus(t, s, g, nil), []transactions.Try{reads(8)}, 1000, "[{1 [3]}]; 196")
		expectFrame(t, newBus(t, s, nil, nil), []transactions.Try{reads(8)}, 1000, "[{4 []}]; 196")
	}
}

// TestP11_1Empty: a device that is a nil function, and a wire that is a nil line, are
// as good as none.
func TestP11_1Empty(t *testing.T) {
	var line *transactions.Line
	b := newBus(t, api.Full, transactions.Func(nil), line)
	expectFrame(t, b, []transactions.Try{reads(64), writes()}, 12000, "[{4 []} {4 []}]; 841")
	expectState(t, "a bus", b, 8, 0, ">sof 0, >in 0.0, >out 0.0, >data0")
}

// TestP11_1Apart: buses do not share their ticks, nor what was sent.
func TestP11_1Apart(t *testing.T) {
	g := friendly()
	one, other := newBus(t, api.High, g, nil), newBus(t, api.High, g, nil)
	for range 9 {
		one.Frame(nil, 0)
	}
	expectState(t, "the other bus", other, 0, 0, "")
	expectFrame(t, other, []transactions.Try{reads(8)}, 1000, "[{1 [1]}]; 196")
	expectState(t, "the other bus", other, 1, 0, ">sof 0, >in 0.0, <data0 01, >ack")
	expectState(t, "the one bus", one, 9, 1, ">sof 1")
}

// TestP11_1None: a nil Bus and a zero one.
func TestP11_1None(t *testing.T) {
	for i, b := range []*frames.Bus{nil, {}, new(frames.Bus)} {
		for range 3 {
			for _, budget := range around(0, 12000) {
				l, sum := b.Frame([]transactions.Try{reads(8), {}}, budget)
				if l != nil || sum != 0 {
					t.Errorf("bus %d: Frame has %d outcomes and the sum %d", i, len(l), sum)
				}
			}
			if b.Ticks() != 0 || b.Number() != 0 || b.Trace() != nil {
				t.Errorf("bus %d: %s", i, stateText(b))
			}
		}
	}
}

// TestP11_1Copy: New keeps a device as it is, so that what it becomes later matters.
func TestP11_1Copy(t *testing.T) {
	g := friendly()
	b := newBus(t, api.Full, g, nil)
	g.reply = func(packets.Packet) reply { return answer(hand(api.Stall)) }
	expectFrame(t, b, []transactions.Try{reads(8)}, 1000, "[{3 []}]; 196")
}
