package endpoints

import (
	"slices"

	"plugboard/api"
	"plugboard/packets"
)

// writeHalf is what an endpoint has that the host writes.
type writeHalf struct {
	room  int
	taken [][]byte
}

// Room sets how many further packets are taken in. (P7.3)
func (e *Endpoint) Room(n int) api.Errno {
	switch {
	case !e.exists():
		return api.ErrNil
	case e.config.In || n < 0 || n > MaxRoom:
		return api.ErrArg
	}
	e.room = n
	return api.OK
}

// Taken returns the packets that were taken in since the last call. (P7.3)
func (e *Endpoint) Taken() [][]byte {
	if !e.exists() {
		return nil
	}
	taken := slices.Clip(e.taken)
	e.taken = nil
	return taken
}

// write lets the endpoint hear data behind an Out, and returns its answer.
func (e *Endpoint) write(p packets.Packet) (packets.Packet, bool) {
	expected := p.Pid == e.dataPid()
	switch {
	case e.isIsochronous():
		if expected && e.fits(p.Data) && e.room > 0 {
			e.take(p.Data)
		}
		return packets.Packet{}, false
	case e.halted:
		return packets.Packet{Pid: api.Stall}, true
	case !e.fits(p.Data):
		return packets.Packet{}, false
	case expected && e.room == 0:
		return packets.Packet{Pid: api.Nak}, true
	case expected:
		e.take(p.Data)
		e.toggle = !e.toggle
	}
	// A packet with the other toggle has been taken before: only its
	// acknowledgement was lost.
	return packets.Packet{Pid: api.Ack}, true
}

// take takes bytes in, which uses up room.
func (h *writeHalf) take(b []byte) {
	h.taken = append(h.taken, own(b))
	h.room--
}
