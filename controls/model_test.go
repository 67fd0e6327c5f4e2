package controls_test

import (
	"encoding/binary"
	"slices"
	"strconv"
	"strings"
	"testing"

	"plugboard/api"
	"plugboard/controls"
	"plugboard/packets"
)

// model is a Zero by the definition of the chapter.
type model struct {
	max      int
	h        *keeper
	finished int
	asked
}

// asked is the request of a model.
type asked struct {
	there, handled, refused, completed bool
	r                                  api.Request
	reads, writes                      bool
	left                               []packets.Packet // that were not acknowledged
	taken                              []byte
	odd                                bool // an odd number of packets was taken
}

// The answers that are always the same.
var (
	ackAnswer   = hand(api.Ack)
	stallAnswer = hand(api.Stall)
)

// hear hears a packet behind a token.
func (m *model) hear(token api.Pid, p packets.Packet) (packets.Packet, bool) {
	isData := p.Pid == api.Data0 || p.Pid == api.Data1
	if token == api.Setup && isData {
		if p.Pid == api.Data1 || len(p.Data) != 8 {
			return packets.Packet{}, false
		}
		m.asked = beginning(p.Data)
		return ackAnswer, true
	}
	if token == api.In && p.Pid == api.In {
		return m.in(), true
	}
	if token == api.In && p.Pid == api.Ack {
		m.ack()
		return packets.Packet{}, false
	}
	if token == api.Out && isData {
		return m.out(p), true
	}
	return packets.Packet{}, false
}

// beginning returns a request with these bytes.
func beginning(b []byte) asked {
	r := api.Request{Type: b[0], Code: b[1], Value: binary.LittleEndian.Uint16(b[2:]), Index: binary.LittleEndian.Uint16(b[4:]), Length: binary.LittleEndian.Uint16(b[6:])}
	return asked{there: true, r: r, reads: r.Type >= 128 && r.Length > 0, writes: r.Type < 128 && r.Length > 0}
}

// in is the answer to an In token.
func (m *model) in() packets.Packet {
	if !m.there || m.refused {
		return stallAnswer
	}
	if m.reads {
		if !m.handled {
			m.handled = true
			in, ok := m.h.Request(m.r, nil)
			if !ok {
				m.refused = true
				return stallAnswer
			}
			m.left = divided(in, int(m.r.Length), m.max)
		}
		if len(m.left) == 0 || m.completed {
			return stallAnswer
		}
		return m.left[0]
	}
	if m.writes && len(m.taken) < int(m.r.Length) {
		m.refused = true
		return stallAnswer
	}
	if !m.handled {
		m.handled = true
		if _, ok := m.h.Request(m.r, m.taken); !ok {
			m.refused = true
			return stallAnswer
		}
	}
	return hand(api.Data1)
}

// divided returns the packets of data of which the host has asked for this many bytes.
func divided(b []byte, length, max int) []packets.Packet {
	pids := []api.Pid{api.Data1, api.Data0}
	if len(b) > length {
		b = b[:length]
	}
	var l []packets.Packet
	sent := 0
	for {
		n := len(b) - sent
		if n > max {
			n = max
		}
		l = append(l, data(pids[len(l)%2], b[sent:sent+n]...))
		sent += n
		if n < max || sent == length {
			return l
		}
	}
}

// ack is what an acknowledgement does.
func (m *model) ack() {
	if !m.there || !m.handled || m.refused {
		return
	}
	if !m.reads {
		m.complete()
	} else if len(m.left) > 0 && !m.completed {
		m.left = m.left[1:]
	}
}

// out is the answer to data behind an Out.
func (m *model) out(p packets.Packet) packets.Packet {
	if !m.there || m.refused {
		return stallAnswer
	}
	if m.reads {
		switch {
		case !m.handled:
			return stallAnswer
		case p.Pid == api.Data0:
			return ackAnswer
		case len(p.Data) > 0:
			return stallAnswer
		}
		m.complete()
		return ackAnswer
	}
	if !m.writes {
		return stallAnswer
	}
	if m.odd != (p.Pid == api.Data0) {
		return ackAnswer
	}
	if m.handled || len(p.Data) > m.max || len(m.taken)+len(p.Data) > int(m.r.Length) {
		m.refused = true
		return stallAnswer
	}
	m.taken = append(slices.Clone(m.taken), p.Data...)
	m.odd = !m.odd
	return ackAnswer
}

// complete completes the status stage.
func (m *model) complete() {
	if !m.completed {
		m.finished++
	}
	m.completed = true
}

// act is something that happens to a Zero: it hears a packet behind a token, or it
// is reset.
type act struct {
	token  api.Pid
	packet packets.Packet
	reset  bool
}

// Acts of each sort.
var (
	hearIn  = act{token: api.In, packet: token(api.In, 5, 0)}
	hearAck = act{token: api.In, packet: hand(api.Ack)}
	resets  = act{reset: true}
)

func hearSetup(r api.Request) act {
	return act{token: api.Setup, packet: data(api.Data0, byteList(r)...)}
}
func hearOut(pid api.Pid, b ...byte) act {
	return act{token: api.Out, packet: data(pid, b...)}
}

// text returns an act as a text.
func (a act) text() string {
	if a.reset {
		return "reset"
	}
	return strconv.Itoa(int(a.token)) + " " + shown(a.packet)
}

// actsText returns acts as a text.
func actsText(l []act) string {
	words := make([]string, len(l))
	for i, a := range l {
		words[i] = a.text()
	}
	return strings.Join(words, "; ")
}

// bench is a Zero beside the model of it. Their Handlers return the same.
type bench struct {
	zero         *controls.Zero
	heard, model *keeper
	m            *model
}

// newBench returns a bench whose Handlers return a reply.
func newBench(t *testing.T, max int, r reply) *bench {
	heard, wanted := &keeper{reply: r}, &keeper{reply: r}
	return &bench{zero: made(t, max, heard), heard: heard, model: wanted, m: &model{max: max, h: wanted}}
}

// do performs an act with both, and reports whether all that can be seen of it is
// the same.
func (b *bench) do(a act) bool {
	if a.reset {
		b.m.asked = asked{}
		return b.zero.Reset() == api.OK && b.same()
	}
	got, ok := b.zero.Hear(a.token, a.packet)
	want, wanted := b.m.hear(a.token, a.packet)
	return ok == wanted && packets.Same(got, want) && b.same()
}

// same reports whether both have finished as much, and have called their Handlers
// with the same.
func (b *bench) same() bool {
	return b.zero.Finished() == b.m.finished && sameCalls(b.heard.calls, b.model.calls)
}

// expectRun compares what a Zero does with the model. It reports whether it is the
// same.
func expectRun(t *testing.T, max int, r reply, l []act) bool {
	t.Helper()
	b := newBench(t, max, r)
	for i, a := range l {
		if !b.do(a) {
			t.Errorf("max %d, %d bytes of the Handler, %t: %s: not as in the model", max, len(r.in), r.ok, short(actsText(l[:i+1])))
			return false
		}
	}
	return true
}
