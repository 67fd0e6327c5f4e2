package endpoints

import (
	"slices"

	"plugboard/api"
	"plugboard/packets"
)

// readHalf is what an endpoint has that the host reads.
type readHalf struct {
	queue []*waiting
}

// waiting is a packet that waits to be read. It is told from others by its
// place in memory, since two packets may have the same bytes.
type waiting struct{ data []byte }

// Offer lets a packet wait that is to be read. (P7.2)
func (e *Endpoint) Offer(b []byte) api.Errno {
	switch {
	case !e.exists():
		return api.ErrNil
	case !e.config.In:
		return api.ErrArg
	case !e.fits(b):
		return api.ErrLimit
	case len(e.queue) >= MaxQueue:
		return api.ErrFull
	}
	e.queue = append(e.queue, &waiting{own(b)})
	return api.OK
}

// Waiting returns the number of packets that wait to be read. (P7.2)
func (e *Endpoint) Waiting() int {
	if !e.exists() {
		return 0
	}
	return len(e.queue)
}

// read returns the answer to an In, and the packet that an acknowledgement of it
// would remove, if there is one.
func (e *Endpoint) read() (answer packets.Packet, sent *waiting) {
	switch {
	case e.isIsochronous():
		return packets.Packet{Pid: api.Data0, Data: e.pull()}, nil
	case e.halted:
		return packets.Packet{Pid: api.Stall}, nil
	case len(e.queue) == 0:
		return packets.Packet{Pid: api.Nak}, nil
	}
	sent = e.queue[0]
	return packets.Packet{Pid: e.dataPid(), Data: own(sent.data)}, sent
}

// acknowledge removes a packet that has arrived. If two sets use the endpoint,
// the other one may have removed it already.
func (e *Endpoint) acknowledge(sent *waiting) {
	if len(e.queue) == 0 || e.queue[0] != sent {
		return
	}
	e.pull()
	e.toggle = !e.toggle
}

// pull removes the first packet, and returns its bytes; none if nothing waits.
func (h *readHalf) pull() []byte {
	if len(h.queue) == 0 {
		return nil
	}
	first := h.queue[0]
	h.queue = slices.Delete(h.queue, 0, 1)
	return first.data
}
