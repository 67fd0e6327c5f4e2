package frames_test

import (
	"fmt"
	"testing"

	"plugboard/api"
	"plugboard/frames"
	"plugboard/packets"
	"plugboard/transactions"
)

// lasts returns the bit times of a packet of n bytes, with its gap, by the definition of
// layer 4.
func lasts(n int) int { return 8 + 8*n + (8*n+1)/6 + 3 + 8 }

// costOf returns the cost of a transaction, by definition.
func costOf(x transactions.Try) int {
	if transactions.Check(x) != api.OK {
		return 0
	}
	many := len(x.Data)
	if x.What == api.In {
		many = x.Max
	}
	cost := lasts(3) + lasts(many+3)
	if !x.Iso {
		cost += lasts(1)
	}
	return cost
}

// model is a bus, by the words of the chapter.
type model struct {
	speed  api.Speed
	device transactions.Device
	wire   transactions.Wire
	ticks  int
	trace  []transactions.Sent
}

// frame performs a frame.
func (m *model) frame(l []transactions.Try, budget int) ([]transactions.Outcome, int) {
	if m.ticks >= 1048576 {
		return nil, 0
	}
	if budget > budgetOf(m.speed) {
		budget = budgetOf(m.speed)
	}
	number := uint16(m.ticks / 8 % 2048)
	m.ticks += stepOf(m.speed)
	_, _, m.trace = transactions.Speak(m.device, m.wire, packets.Packet{Pid: api.Sof, Frame: number})
	var outcomes []transactions.Outcome
	sum := 0
	for _, x := range l {
		if sum+costOf(x) > budget {
			break
		}
		sum += costOf(x)
		o, sent := transactions.Do(m.device, m.wire, x)
		outcomes, m.trace = append(outcomes, o), append(m.trace, sent...)
	}
	return outcomes, sum
}

// number returns the frame number of the last tick that has begun.
func (m *model) number() uint16 {
	if m.ticks == 0 {
		return 0
	}
	return uint16((m.ticks - 1) / 8 % 2048)
}

// twins are a bus and its model, each with a device and a wire of its own.
type twins struct {
	bus     *frames.Bus
	model   *model
	devices [2]*gadget
	wires   [2]*meter
}

// newTwins returns twins. A device that is nil is none, and a wire without a list of
// faults is none.
func newTwins(t *testing.T, s api.Speed, device func() *gadget, faults []transactions.Fault) *twins {
	t.Helper()
	x := &twins{}
	var devices [2]transactions.Device
	var wires [2]transactions.Wire
	for i := range 2 {
		if device != nil {
			x.devices[i] = device()
			devices[i] = x.devices[i]
		}
		if faults != nil {
			x.wires[i] = &meter{faults: faults}
			wires[i] = x.wires[i]
		}
	}
	x.bus = newBus(t, s, devices[0], wires[0])
	x.model = &model{speed: s, device: devices[1], wire: wires[1]}
	return x
}

// expectFrame performs a frame with both, and compares what can be seen of them.
func (x *twins) expectFrame(t *testing.T, name string, l []transactions.Try, budget int) {
	t.Helper()
	got, sum := x.bus.Frame(l, budget)
	want, all := x.model.frame(l, budget)
	name += fmt.Sprintf(": speed %d, budget %d", x.model.speed, budget)
	expect(t, name, resultText(got, sum), resultText(want, all))
	expectState(t, name, x.bus, x.model.ticks, x.model.number(), sentText(x.model.trace))
	if x.devices[0] != nil {
		expect(t, name+": heard", heardText(x.devices[0].heard), heardText(x.devices[1].heard))
		x.devices[0].heard, x.devices[1].heard = nil, nil
	}
	if x.wires[0] != nil && x.wires[0].asked != x.wires[1].asked {
		t.Errorf("%s: %d packets on the wire; expected %d", name, x.wires[0].asked, x.wires[1].asked)
	}
}

// TestCosts: the costs that the other tests compare with, by numbers of the document.
func TestCosts(t *testing.T) {
	for _, c := range []struct {
		x    transactions.Try
		cost int
	}{
		{reads(64), 719}, {reads(0), 122}, {writes(), 122}, {readsIso(1024), 9651}, {writesIso(mixed(1024, 1)...), 9651},
		{writes(mixed(64, 1)...), 719}, {sets(mixed(8, 1)...), costOf(reads(8))}, {reads(1025), 0}, {sets(), 0},
	} {
		if cost := costOf(c.x); cost != c.cost {
			t.Errorf("%s costs %d; expected %d", tryText(c.x), cost, c.cost)
		}
	}
}
