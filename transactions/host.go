package transactions

import (
	"bytes"
	"slices"

	"plugboard/api"
	"plugboard/packets"
)

// host speaks with what is attached to its bus.
type host struct {
	device Device
	wire   Wire
	note   func(s Sent) // is told of each packet that is sent
}

// newHost returns a host, and a function that returns what has been sent.
func newHost(d Device, w Wire) (host, func() []Sent) {
	var sent []Sent
	note := func(s Sent) { sent = append(sent, s) }
	return host{device: d, wire: w, note: note}, func() []Sent { return slices.Clip(sent) }
}

// own returns a packet whose data is in memory of its own. Each side keeps, and
// may change, what it has: the host, the device, and the list of what was sent.
func own(p packets.Packet) packets.Packet {
	p.Data = slices.Clip(bytes.Clone(p.Data))
	return p
}

// fault returns what becomes of the next packet.
func (h host) fault() Fault {
	if h.wire == nil {
		return Good
	}
	return h.wire.Next()
}

// send sends a packet of the host or of the device, and reports whether it arrives.
func (h host) send(p packets.Packet, byHost bool) bool {
	f := h.fault()
	h.note(Sent{Packet: own(p), Host: byHost, Fault: f})
	return f == Good
}

// ask lets the device hear a packet, and returns its answer, if one arrives.
// Otherwise it returns the zero packet, which has no identifier.
func (h host) ask(p packets.Packet) (packets.Packet, bool) {
	if h.device == nil {
		return packets.Packet{}, false
	}
	answer, ok := h.device.Hear(own(p))
	if !ok || packets.Check(answer) != api.OK {
		return packets.Packet{}, false
	}
	// The device may use its memory again when it hears the next packet.
	answer = own(answer)
	if !h.send(answer, false) {
		return packets.Packet{}, false
	}
	return answer, true
}

// speak sends a packet of the host, and returns the answer, if one arrives.
func (h host) speak(p packets.Packet) (packets.Packet, bool) {
	if !h.send(p, true) {
		return packets.Packet{}, false
	}
	return h.ask(p)
}

// perform performs a transaction without an error.
func (h host) perform(t Try) Outcome {
	if t.What == api.In {
		return h.read(t)
	}
	return Outcome{Result: h.write(t)}
}

// read performs an In.
func (h host) read(t Try) Outcome {
	answer, _ := h.speak(token(t))
	if answer.Pid != api.Data0 && answer.Pid != api.Data1 {
		return Outcome{Result: handshake(t, answer.Pid)}
	}
	if len(answer.Data) > t.Max {
		return Outcome{Result: Babble}
	}
	if !t.Iso {
		h.speak(packets.Packet{Pid: api.Ack})
		if answer.Pid != dataPid(t.Toggle) {
			return Outcome{Result: Again}
		}
	}
	return Outcome{Result: Done, Data: answer.Data}
}

// write performs an Out or a Setup.
func (h host) write(t Try) Result {
	opened := h.send(token(t), true)
	if opened {
		h.ask(token(t))
	}
	data := packets.Packet{Pid: dataPid(t.Toggle), Data: t.Data}
	answer := packets.Packet{}
	// The data is sent, and takes its fault, also if nobody expects it.
	if h.send(data, true) && opened {
		answer, _ = h.ask(data)
	}
	if t.Iso {
		return Done
	}
	return handshake(t, answer.Pid)
}

// token returns the token of a transaction.
func token(t Try) packets.Packet {
	return packets.Packet{Pid: t.What, Addr: t.Addr, Endp: t.Endp}
}

// dataPid returns the identifier of data with a toggle.
func dataPid(toggle bool) api.Pid {
	if toggle {
		return api.Data1
	}
	return api.Data0
}

// handshake returns the result of a transaction whose answer has this identifier
// (0 if there is none). A handshake that cannot be is an error of the device,
// which counts as no answer.
func handshake(t Try, answer api.Pid) Result {
	switch answer {
	case api.Ack:
		if t.What == api.In {
			goto unanswered
		}
		return Done
	case api.Nak:
		if t.What == api.Setup || t.Iso {
			goto unanswered
		}
		return Nak
	case api.Stall:
		if t.What == api.Setup || t.Iso {
			goto unanswered
		}
		return Stall
	}
unanswered:
	return None
}
