package controls

import (
	"slices"

	"plugboard/api"
	"plugboard/packets"
)

// Zero is endpoint 0 of a device. It is an endpoints.Zero.
type Zero struct {
	max      int
	handler  Handler  // not nil in a Zero that NewZero has returned
	current  *request // nil without a request
	finished int
}

// request is what a Zero was asked for, and how far it has come with it.
type request struct {
	api.Request
	handled, refused bool
	completed        bool   // its status stage
	data             []byte // what was taken for the Handler, or what the Handler has returned
	passed           int    // packets of data that were taken, or acknowledged
}

// NewZero returns an endpoint 0 with packets of max bytes. (P8.2)
func NewZero(max int, h Handler) (*Zero, api.Errno) {
	if !isPossible(max) {
		return nil, api.ErrArg
	}
	if h == nil {
		return nil, api.ErrNil
	}
	return &Zero{max: max, handler: h}, api.OK
}

// exists reports whether NewZero has returned the Zero.
func (z *Zero) exists() bool { return z != nil && z.handler != nil }

// Hear hears a packet behind a token. (P8.2)
func (z *Zero) Hear(token api.Pid, p packets.Packet) (packets.Packet, bool) {
	if !z.exists() {
		return packets.Packet{}, false
	}
	isData := p.Pid == api.Data0 || p.Pid == api.Data1
	switch {
	case token == api.Setup && isData:
		return z.hearSetup(p)
	case token == api.In && p.Pid == api.In:
		return z.hearIn(), true
	case token == api.In && p.Pid == api.Ack:
		z.hearAck()
	case token == api.Out && isData:
		return packets.Packet{Pid: z.hearOut(p)}, true
	}
	return packets.Packet{}, false
}

// Reset forgets the request that is under way. (P8.2)
func (z *Zero) Reset() api.Errno {
	if !z.exists() {
		return api.ErrNil
	}
	z.current = nil
	return api.OK
}

// Finished returns the number of requests whose status stage has been completed, as far as the device knows. (P8.2)
func (z *Zero) Finished() int {
	if !z.exists() {
		return 0
	}
	return z.finished
}

// hearSetup hears data behind a Setup, which begins a request.
func (z *Zero) hearSetup(p packets.Packet) (packets.Packet, bool) {
	r, e := Join(p.Data)
	if p.Pid != api.Data0 || e != api.OK {
		return packets.Packet{}, false
	}
	z.current = &request{Request: r}
	return packets.Packet{Pid: api.Ack}, true
}

// hearIn hears an In token, and answers it: with data, or in the status stage.
func (z *Zero) hearIn() packets.Packet {
	q := z.current
	if !q.isOpen() {
		return packets.Packet{Pid: api.Stall}
	}
	if !q.handled {
		z.handle(q)
	}
	switch {
	case q.refused:
		return packets.Packet{Pid: api.Stall}
	case reads(q.Request):
		return z.offer(q)
	}
	return packets.Packet{Pid: api.Data1}
}

// handle lets the Handler handle a request, whose data must have been taken.
func (z *Zero) handle(q *request) {
	if writes(q.Request) && len(q.data) < int(q.Length) {
		q.refused = true
		return
	}
	// What was taken is the Handler's from now on. All of this is before the call: the
	// Handler may let the Zero hear packets, and is still not called twice.
	out := slices.Clip(q.data)
	q.handled, q.data = true, nil
	in, ok := z.handler.Request(q.Request, out)
	if !ok {
		q.refused = true
		return
	}
	if reads(q.Request) {
		q.data = own(in[:min(len(in), int(q.Length))])
	}
}

// offer answers with the first packet of the data that was not acknowledged.
func (z *Zero) offer(q *request) packets.Packet {
	if !z.waits(q) {
		return packets.Packet{Pid: api.Stall}
	}
	from := q.passed * z.max
	to := min(from+z.max, len(q.data))
	return packets.Packet{Pid: q.nextPid(), Data: own(q.data[from:to])}
}

// waits reports whether there is a packet that waits to be acknowledged.
func (z *Zero) waits(q *request) bool {
	return !q.completed && q.passed < z.packetsOf(q)
}

// packetsOf returns in how many packets the data is sent. The host knows that they
// end if they have the length that it has asked for, or the last one is not full.
func (z *Zero) packetsOf(q *request) int {
	n := len(q.data)
	if n == int(q.Length) {
		return (n + z.max - 1) / z.max
	}
	return n/z.max + 1
}

// hearAck hears the acknowledgement of what was answered to an In token.
func (z *Zero) hearAck() {
	q := z.current
	switch {
	case !q.isOpen() || !q.handled:
	case !reads(q.Request):
		z.complete(q)
	case z.waits(q):
		q.passed++
	}
}

// hearOut hears data behind an Out, and returns the identifier of the answer.
func (z *Zero) hearOut(p packets.Packet) api.Pid {
	q := z.current
	switch {
	case !q.isOpen():
		return api.Stall
	case writes(q.Request):
		return z.take(q, p)
	case reads(q.Request):
		return z.hearStatus(q, p)
	}
	return api.Stall
}

// take takes data for the Handler.
func (z *Zero) take(q *request, p packets.Packet) api.Pid {
	if p.Pid != q.nextPid() {
		// It was taken before: only its acknowledgement was lost.
		return api.Ack
	}
	if q.handled || len(p.Data) > z.max || len(q.data)+len(p.Data) > int(q.Length) {
		q.refused = true
		return api.Stall
	}
	q.data = append(q.data, p.Data...)
	q.passed++
	return api.Ack
}

// hearStatus hears data in the status stage of a request that reads.
func (z *Zero) hearStatus(q *request, p packets.Packet) api.Pid {
	if !q.handled {
		return api.Stall
	}
	if p.Pid == api.Data0 {
		return api.Ack
	}
	if len(p.Data) > 0 {
		return api.Stall
	}
	z.complete(q)
	return api.Ack
}

// complete completes the status stage.
func (z *Zero) complete(q *request) {
	if !q.completed {
		q.completed = true
		z.finished++
	}
}

// isOpen reports whether there is a request that was not refused.
func (q *request) isOpen() bool { return q != nil && !q.refused }

// nextPid returns the identifier of the next packet of the data stage. The first
// one is Data1.
func (q *request) nextPid() api.Pid {
	if q.passed%2 == 0 {
		return api.Data1
	}
	return api.Data0
}
