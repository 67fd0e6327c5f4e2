package toggles

import "slices"

// The senders and receivers of this file still have the packets in the memory of
// the arguments. They are copied once, when they become results: a copy for each
// exchange would take far too long.

// hasPacket reports whether a sender has a packet that it sends.
func hasPacket(s Sender) bool { return len(s.Left) > 0 }

// acknowledged returns a sender that has a packet behind an acknowledgement.
func acknowledged(s Sender) Sender {
	return Sender{Toggle: !s.Toggle, Left: s.Left[1:]}
}

// heard returns a receiver behind a packet, and whether it has taken it. It may
// use the spare capacity of the packets that were taken.
func heard(r Receiver, toggle bool, b []byte) (next Receiver, fresh bool) {
	if toggle != r.Toggle {
		return r, false
	}
	return Receiver{Toggle: !r.Toggle, Got: append(r.Got, b)}, true
}

// clipped returns a receiver without spare capacity, so that what lies behind
// the packets of an argument is not overwritten.
func clipped(r Receiver) Receiver {
	return Receiver{Toggle: r.Toggle, Got: slices.Clip(r.Got)}
}

// pair is a sender and the receiver that hears it.
type pair struct {
	sender   Sender
	receiver Receiver
}

// steps returns what happens in an exchange, in its order.
func (p *pair) steps(e Exchange) []func() {
	switch {
	case !hasPacket(p.sender) || e.Data:
		return nil
	case e.Ack:
		return []func(){p.hear}
	}
	return []func(){p.hear, p.acknowledge}
}

// hear lets the receiver hear the packet of the sender.
func (p *pair) hear() {
	p.receiver, _ = heard(p.receiver, p.sender.Toggle, p.sender.Left[0])
}

// acknowledge lets the sender get the acknowledgement.
func (p *pair) acknowledge() { p.sender = acknowledged(p.sender) }

// ownSender returns a sender in new memory.
func ownSender(s Sender) Sender {
	return Sender{Toggle: s.Toggle, Left: copies(s.Left)}
}

// ownReceiver returns a receiver in new memory.
func ownReceiver(r Receiver) Receiver {
	return Receiver{Toggle: r.Toggle, Got: copies(r.Got)}
}

// copies returns packets of which each has memory of its own.
func copies(l [][]byte) [][]byte {
	out := copied(l)
	for i, b := range out {
		out[i] = copied(b)
	}
	return out
}

// copied returns a list in new memory. (slices.Clone might leave spare capacity.)
func copied[E any](l []E) []E {
	out := make([]E, len(l))
	copy(out, l)
	return out
}
