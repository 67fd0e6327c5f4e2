package endpoints

import (
	"slices"

	"plugboard/api"
	"plugboard/packets"
)

// Zero is what is behind endpoint 0. Hear is called with each packet for it: an In token (token In), the data behind an Out or a Setup token (token Out or Setup), and the acknowledgement of what was answered to an In token (token In).
type Zero interface {
	Hear(token api.Pid, p packets.Packet) (packets.Packet, bool)
}

// Set is the endpoints of a device. It is a transactions.Device.
type Set struct {
	address   uint8
	endpoints map[place]*Endpoint // not nil in a set that NewSet has returned
	zero      Zero
	expectation
}

// place is where tokens find an endpoint.
type place struct {
	number uint8
	in     bool
}

// expectation is what is expected behind a token, or behind the answer to it.
type expectation struct {
	token  api.Pid   // Out, Setup: the data; In: the acknowledgement of data; 0: nothing
	target *Endpoint // nil is the Zero
	sent   *waiting  // what the acknowledgement removes from the queue of target
}

// NewSet returns a set without endpoints, with the address 0. (P7.5)
func NewSet() *Set { return &Set{endpoints: map[place]*Endpoint{}} }

// exists reports whether NewSet has returned the set.
func (s *Set) exists() bool { return s != nil && s.endpoints != nil }

// Address sets the address. (P7.5)
func (s *Set) Address(a uint8) api.Errno {
	if !s.exists() {
		return api.ErrNil
	}
	if a > api.MaxAddress {
		return api.ErrArg
	}
	s.address = a
	s.expectation = expectation{}
	return api.OK
}

// Use replaces the endpoints from 1 on. (P7.5)
func (s *Set) Use(l ...*Endpoint) api.Errno {
	isMissing := func(e *Endpoint) bool { return !e.exists() }
	if !s.exists() || slices.ContainsFunc(l, isMissing) {
		return api.ErrNil
	}
	endpoints := map[place]*Endpoint{}
	for _, e := range l {
		at := place{e.config.Number, e.config.In}
		if endpoints[at] != nil {
			return api.ErrThere
		}
		endpoints[at] = e
	}
	s.endpoints = endpoints
	s.expectation = expectation{}
	return api.OK
}

// Zero sets what is behind endpoint 0. (P7.5)
func (s *Set) Zero(z Zero) api.Errno {
	if !s.exists() {
		return api.ErrNil
	}
	s.zero = z
	s.expectation = expectation{}
	return api.OK
}

// Find returns an endpoint. (P7.5)
func (s *Set) Find(number uint8, in bool) *Endpoint {
	if !s.exists() {
		return nil
	}
	return s.endpoints[place{number, in}]
}

// Hear hears a good packet. (P7.6)
func (s *Set) Hear(p packets.Packet) (packets.Packet, bool) {
	if !s.exists() || packets.Check(p) != api.OK {
		return packets.Packet{}, false
	}
	expected := s.expectation
	s.expectation = expectation{}
	switch p.Pid {
	case api.In:
		return s.hearIn(p)
	case api.Out, api.Setup:
		s.hearOut(p)
	case api.Data0, api.Data1:
		return s.hearData(expected, p)
	case api.Ack:
		s.hearAck(expected, p)
	}
	return packets.Packet{}, false
}

// hearIn hears an In token, and answers it.
func (s *Set) hearIn(p packets.Packet) (packets.Packet, bool) {
	if p.Addr != s.address {
		return packets.Packet{}, false
	}
	if p.Endp == 0 {
		answer, ok := s.ask(api.In, p)
		// Only now, since the Zero may have called the set, which then expects nothing.
		if answer.Pid == api.Data0 || answer.Pid == api.Data1 {
			s.token, s.target, s.sent = api.In, nil, nil
		}
		return answer, ok
	}
	e := s.Find(p.Endp, true)
	if e == nil {
		return packets.Packet{}, false
	}
	answer, sent := e.read()
	if sent != nil {
		s.token, s.target, s.sent = api.In, e, sent
	}
	return answer, true
}

// hearOut hears an Out or a Setup token. Only the Zero knows the latter. If there
// is no Zero, its data has no answer either.
func (s *Set) hearOut(p packets.Packet) {
	e := s.Find(p.Endp, false) // nil for the Zero
	if p.Addr == s.address && (p.Endp == 0 || e != nil && p.Pid == api.Out) {
		s.token, s.target = p.Pid, e
	}
}

// hearData hears data, and answers it if it was expected.
func (s *Set) hearData(expected expectation, p packets.Packet) (packets.Packet, bool) {
	if expected.token != api.Out && expected.token != api.Setup {
		return packets.Packet{}, false
	}
	if expected.target == nil {
		return s.ask(expected.token, p)
	}
	return expected.target.write(p)
}

// hearAck hears an acknowledgement, which is not answered.
func (s *Set) hearAck(expected expectation, p packets.Packet) {
	if expected.token != api.In {
		return
	}
	if expected.target == nil {
		s.ask(api.In, p)
		return
	}
	expected.target.acknowledge(expected.sent)
}

// ask lets the Zero hear a packet, and returns its answer, if there are both.
func (s *Set) ask(token api.Pid, p packets.Packet) (packets.Packet, bool) {
	if s.zero == nil {
		return packets.Packet{}, false
	}
	answer, ok := s.zero.Hear(token, ownPacket(p))
	if !ok {
		return packets.Packet{}, false
	}
	return ownPacket(answer), true
}
