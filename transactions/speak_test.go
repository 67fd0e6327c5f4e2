package transactions_test

import (
	"testing"

	"plugboard/api"
	"plugboard/packets"
	"plugboard/transactions"
)

// expectSpeak compares Speak with the definition: p is the packet of the host,
// and r what the device returns.
func expectSpeak(t *testing.T, p packets.Packet, r reply, faults []transactions.Fault) {
	t.Helper()
	fault := func(i int) transactions.Fault {
		if i < len(faults) {
			return faults[i]
		}
		return good
	}
	var heard []packets.Packet
	var sent []transactions.Sent
	want := silent
	if packets.Check(p) == api.OK {
		sent = append(sent, transactions.Sent{Packet: p, Host: true, Fault: fault(0)})
		if fault(0) == good {
			heard = append(heard, p)
			if r.ok && packets.Check(r.packet) == api.OK {
				sent = append(sent, transactions.Sent{Packet: r.packet, Fault: fault(1)})
				if fault(1) == good {
					want = r
				}
			}
		}
	}
	name := "Speak of " + shown(p) + ", with the answer " + shown(r.packet) + ", " + faultsText(faults)
	d, w := scripted(r, r), &meter{faults: faults}
	got, ok, l := transactions.Speak(d, w, p)
	if ok != want.ok || !packets.Same(got, want.packet) {
		t.Errorf("%s: %s, %t; expected %s, %t", short(name), short(shown(got)), ok, short(shown(want.packet)), want.ok)
	}
	expect(t, name, sentText(l), sentText(sent))
	expect(t, name+", heard", heardText(d.heard), heardText(heard))
	if w.asked != len(sent) {
		t.Errorf("%s: %d faults were used for %d packets", short(name), w.asked, len(sent))
	}
}

// TestP6_3Speak: packets of every sort, with and without an error, are spoken
// with answers of every sort, and faults that run out.
func TestP6_3Speak(t *testing.T) {
	for _, p := range replies() {
		for _, r := range replies() {
			eachFaults(3, anyFault, func(l []transactions.Fault) { expectSpeak(t, p.packet, r, l) })
		}
	}
}

// TestP6_3Nobody: without a device there is no answer, and without a wire all
// packets arrive.
func TestP6_3Nobody(t *testing.T) {
	p := token(api.In, 5, 6)
	for _, f := range anyFault {
		w := &meter{faults: []transactions.Fault{f}}
		got, ok, sent := transactions.Speak(nil, w, p)
		if ok || !packets.Same(got, packets.Packet{}) || w.asked != 1 {
			t.Errorf("Speak with nobody: %s, %t, %d faults", shown(got), ok, w.asked)
		}
		expect(t, "Speak with nobody", sentText(sent), sentText([]transactions.Sent{{Packet: p, Host: true, Fault: f}}))
	}
	var absent *transactions.Line
	d := scripted(answer(hand(api.Nak)), silent)
	for i, w := range []transactions.Wire{nil, absent, &transactions.Line{}, transactions.NewLine()} {
		got, ok, sent := transactions.Speak(d, w, p)
		if !ok || !packets.Same(got, hand(api.Nak)) || len(d.heard) != i+1 {
			t.Errorf("Speak over a wire without faults: %s, %t", shown(got), ok)
		}
		expect(t, "Speak over a wire without faults", sentText(sent), ">in 5.6, <nak")
	}
	_, ok, sent := transactions.Speak(nil, nil, p)
	if ok {
		t.Error("Speak with nothing is answered")
	}
	expect(t, "Speak with nothing", sentText(sent), ">in 5.6")
}

// TestP6_3Errors: nothing is sent, and nothing returned, if the packet has an
// error.
func TestP6_3Errors(t *testing.T) {
	d, w := scripted(answer(hand(api.Ack)), answer(hand(api.Ack))), &meter{faults: []transactions.Fault{lost}}
	for _, p := range []packets.Packet{{}, hand(7), token(api.In, 128, 0), token(api.Out, 0, 16), data(api.Data0, mixed(1025, 1)...), data(api.Nak, 1), {Pid: api.Sof, Frame: 2048}} {
		got, ok, sent := transactions.Speak(d, w, p)
		if ok || !packets.Same(got, packets.Packet{}) || got.Data != nil || sent != nil || len(d.heard) != 0 || w.asked != 0 {
			t.Errorf("Speak of %s: %s, %t, sent %s, heard %s, %d faults", shown(p), shown(got), ok, sentText(sent), heardText(d.heard), w.asked)
		}
	}
}

// TestP6_3OneByOne: the faults of a wire go on with the next packets.
func TestP6_3OneByOne(t *testing.T) {
	w := transactions.NewLine(good, lost, damaged, good)
	d := scripted(answer(hand(api.Nak)), answer(hand(api.Ack)))
	for _, c := range []struct {
		p    packets.Packet
		want string
		left int
	}{
		{token(api.In, 0, 0), ">in 0.0, <nak!1", 2},
		{token(api.In, 0, 1), ">in 0.1!2", 1},
		{hand(4), "", 1},
		{data(api.Data1, 5), ">data1 05, <ack", 0},
		{data(api.Data1, 6), ">data1 06, <ack", 0},
	} {
		_, _, sent := transactions.Speak(d, w, c.p)
		expect(t, "Speak of "+shown(c.p), sentText(sent), c.want)
		if w.Left() != c.left {
			t.Errorf("behind %s: %d faults left; expected %d", shown(c.p), w.Left(), c.left)
		}
	}
	expect(t, "heard", heardText(d.heard), "in 0.0, data1 05, data1 06")
}
