package transactions_test

import (
	"bytes"
	"math/rand"
	"slices"
	"testing"

	"plugboard/api"
	"plugboard/packets"
	"plugboard/toggles"
	"plugboard/transactions"
)

// arrived returns the packets of the host that arrive: those whose fault is
// Good, but data of an Out or a Setup only behind a token that arrives.
func arrived(sent []transactions.Sent) []packets.Packet {
	var out []packets.Packet
	tokenArrived := true
	for _, s := range sent {
		if !s.Host {
			continue
		}
		switch s.Packet.Pid {
		case api.Out, api.Setup:
			tokenArrived = s.Fault == good
		}
		if s.Fault == good && tokenArrived {
			out = append(out, s.Packet)
		}
	}
	return out
}

// TestP6_5Heard: a device hears exactly the packets of the host that have
// arrived, with samples of transactions, answers and faults.
func TestP6_5Heard(t *testing.T) {
	for _, x := range samples() {
		for _, r := range replies() {
			eachFaults(4, []transactions.Fault{good, damaged}, func(l []transactions.Fault) {
				d := scripted(r, answer(hand(api.Ack)))
				_, sent := transactions.Do(d, transactions.NewLine(l...), x)
				if want := arrived(sent); !slices.EqualFunc(d.heard, want, packets.Same) {
					t.Errorf("%s, %s: heard %s; expected %s", tryText(x), faultsText(l), short(heardText(d.heard)), short(heardText(want)))
				}
			})
		}
	}
}

// TestP6_5LostAnswers: if the answer does not arrive, the result is None; of an
// Out with Iso it is Done.
func TestP6_5LostAnswers(t *testing.T) {
	for _, x := range samples() {
		for _, r := range goodReplies() {
			for _, f := range anyFault[1:] {
				d, l := scripted(r, silent), []transactions.Fault{good, f}
				if x.What != api.In {
					d, l = scripted(silent, r), []transactions.Fault{good, good, f}
				}
				want := transactions.None
				if x.What == api.Out && x.Iso {
					want = transactions.Done
				}
				o, _ := transactions.Do(d, transactions.NewLine(l...), x)
				if o.Result != want || o.Data != nil {
					t.Errorf("%s, the answer %s is lost: %s", tryText(x), short(shown(r.packet)), outcomeText(o))
				}
			}
		}
	}
}

// TestP6_5LostAcks: whether the Ack of the host arrives, and what is answered to
// it, does not matter for the result.
func TestP6_5LostAcks(t *testing.T) {
	for _, x := range samples() {
		if x.What != api.In {
			continue
		}
		for _, r := range replies() {
			want, _ := transactions.Do(scripted(r, silent), nil, x)
			for _, other := range replies() {
				for _, l := range [][]transactions.Fault{{good, good, lost}, {good, good, highest}, {good, good, good, lost}, nil} {
					got, _ := transactions.Do(scripted(r, other), transactions.NewLine(l...), x)
					if got.Result != want.Result || !bytes.Equal(got.Data, want.Data) {
						t.Errorf("%s, answer %s, %s: %s; expected %s", tryText(x), short(shown(r.packet)), faultsText(l), outcomeText(got), outcomeText(want))
					}
				}
			}
		}
	}
}

// taker is a device that takes packets as the receiver of layer 5 does. It
// refuses a packet now and then.
type taker struct {
	receiver toggles.Receiver
	refuse   func() (packets.Packet, bool)
	// check is called behind each packet that is heard.
	check func()
}

// Hear hears a packet, and acknowledges data.
func (d *taker) Hear(p packets.Packet) (packets.Packet, bool) {
	defer d.check()
	if p.Pid != api.Data0 && p.Pid != api.Data1 {
		return packets.Packet{}, false
	}
	if refusal, ok := d.refuse(); ok {
		return refusal, true
	}
	d.receiver, _ = toggles.Hear(d.receiver, p.Pid == api.Data1, p.Data)
	return hand(api.Ack), true
}

// giver is a device that sends packets as the sender of layer 5 does.
type giver struct {
	sender toggles.Sender
	refuse func() (packets.Packet, bool)
	given  bool // it waits for an acknowledgement
	check  func()
}

// Hear hears a packet: a token, or the acknowledgement of what it has given.
func (d *giver) Hear(p packets.Packet) (packets.Packet, bool) {
	defer d.check()
	given := d.given
	d.given = false
	if p.Pid == api.Ack && given {
		d.sender, _ = toggles.Acknowledge(d.sender)
	}
	if p.Pid != api.In {
		return packets.Packet{}, false
	}
	if refusal, ok := d.refuse(); ok {
		return refusal, true
	}
	b, toggle, ok := toggles.Offer(d.sender)
	if !ok {
		return hand(api.Nak), true
	}
	d.given = true
	if toggle {
		return data(api.Data1, b...), true
	}
	return data(api.Data0, b...), true
}

// never refuses nothing.
func never() (packets.Packet, bool) { return packets.Packet{}, false }

// expectOrder checks that what was taken are the first ones of the packets, each
// once: n of them, or one more.
func expectOrder(t *testing.T, name string, l, taken [][]byte, n int) {
	t.Helper()
	if len(taken) < n || len(taken) > n+1 || len(taken) > len(l) || !slices.EqualFunc(taken, l[:len(taken)], bytes.Equal) {
		t.Fatalf("%s: %v taken of %v, with %d acknowledged", name, taken, l, n)
	}
}

// carryOut sends packets with Out, n times at most, and checks all the while what
// the device has taken.
func carryOut(t *testing.T, l [][]byte, w transactions.Wire, n int, refuse func() (packets.Packet, bool)) (done int) {
	t.Helper()
	s, e := toggles.New(l...)
	if e != api.OK {
		t.Fatalf("New: %d", e)
	}
	d := &taker{refuse: refuse}
	d.check = func() { expectOrder(t, "Out", l, d.receiver.Got, len(l)-len(s.Left)) }
	for range n {
		b, toggle, ok := toggles.Offer(s)
		if !ok {
			break
		}
		o, _ := transactions.Do(d, w, transactions.Try{What: api.Out, Endp: 1, Toggle: toggle, Data: b})
		if o.Result == transactions.Done {
			s, _ = toggles.Acknowledge(s)
		}
		d.check()
	}
	return len(l) - len(s.Left)
}

// carryIn reads packets with In, n times, and checks all the while what the
// host has taken, and what the device has left.
func carryIn(t *testing.T, l [][]byte, w transactions.Wire, n int, refuse func() (packets.Packet, bool)) (done int) {
	t.Helper()
	s, e := toggles.New(l...)
	if e != api.OK {
		t.Fatalf("New: %d", e)
	}
	r := toggles.Receiver{}
	d := &giver{sender: s, refuse: refuse}
	// The device hears the acknowledgement before the host knows the outcome, and
	// so may be a packet in front of it within a transaction.
	d.check = func() {
		sent := len(l) - len(d.sender.Left)
		if len(r.Got) != sent && len(r.Got) != sent-1 && len(r.Got) != sent+1 {
			t.Fatalf("In: %d packets taken, %d acknowledged", len(r.Got), sent)
		}
	}
	for range n {
		o, _ := transactions.Do(d, w, transactions.Try{What: api.In, Endp: 1, Toggle: r.Toggle, Max: 64})
		fresh := false
		switch o.Result {
		case transactions.Done:
			r, fresh = toggles.Hear(r, r.Toggle, o.Data)
			if !fresh {
				t.Fatal("In: a packet with the toggle of the host is not taken")
			}
		case transactions.Babble:
			t.Fatal("In: babble")
		}
		expectOrder(t, "In", l, r.Got, len(l)-len(d.sender.Left))
	}
	return len(r.Got)
}

// alike are packets that differ, and such as are equal, or empty.
func alike() [][][]byte {
	return [][][]byte{{{1}, {2}, {3}}, {{1}, {1}, {1}}, {{}, {}, {}, {}}, {{1, 2}, {}, {1, 2}, {1, 2}, {3}}, {{9}}, {}}
}

// TestP6_5AllFaults: packets go out and in, with all lists of faults; behind
// them all packets arrive.
func TestP6_5AllFaults(t *testing.T) {
	for _, l := range alike() {
		eachFaults(10, []transactions.Fault{good, lost}, func(faults []transactions.Fault) {
			if n := carryOut(t, l, transactions.NewLine(faults...), 20, never); n != len(l) {
				t.Fatalf("%d of %d packets are out behind %s", n, len(l), faultsText(faults))
			}
			if n := carryIn(t, l, transactions.NewLine(faults...), 20, never); n != len(l) {
				t.Fatalf("%d of %d packets are in behind %s", n, len(l), faultsText(faults))
			}
		})
	}
}

// TestP6_5AnyFault: faults of every sort.
func TestP6_5AnyFault(t *testing.T) {
	l := [][]byte{{1}, {2}, {2}}
	eachFaults(6, anyFault, func(faults []transactions.Fault) {
		out := carryOut(t, l, transactions.NewLine(faults...), 10, never)
		in := carryIn(t, l, transactions.NewLine(faults...), 10, never)
		if out != len(l) || in != len(l) {
			t.Fatalf("%d packets are out and %d in behind %s", out, in, faultsText(faults))
		}
	})
}

// chance is a wire that loses packets at random.
type chance struct {
	source *rand.Rand
	good   int // of 10 packets
}

// Next returns a fault.
func (c *chance) Next() transactions.Fault {
	if c.source.Intn(10) < c.good {
		return good
	}
	return transactions.Fault(1 + c.source.Intn(255))
}

// TestP6_5LongRuns: many packets over wires that lose many of them, with devices
// that refuse some.
func TestP6_5LongRuns(t *testing.T) {
	source := rand.New(rand.NewSource(6))
	refuse := func() (packets.Packet, bool) {
		refusals := []packets.Packet{hand(api.Nak), hand(api.Stall), hand(api.Nyet), {}, token(api.In, 1, 1)}
		return refusals[source.Intn(len(refusals))], source.Intn(4) == 0
	}
	for round := range 60 {
		l := make([][]byte, source.Intn(40))
		for i := range l {
			l[i] = mixed(source.Intn(20), source.Intn(3))
		}
		w := &chance{source: source, good: 1 + round%10}
		carryOut(t, l, w, 200, refuse)
		carryIn(t, l, w, 200, refuse)
	}
}
