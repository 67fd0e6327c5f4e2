package endpoints_test

import (
	"slices"
	"strconv"
	"strings"
	"testing"

	"plugboard/api"
	"plugboard/endpoints"
	"plugboard/packets"
)

// either is both values.
var either = []bool{false, true}

// allKinds are the kinds that an endpoint may have.
var allKinds = []api.Kind{api.Isochronous, api.Bulk, api.Interrupt}

// handshaking are the kinds whose packets are acknowledged.
var handshaking = []api.Kind{api.Bulk, api.Interrupt}

// Packets of each form.
func token(pid api.Pid, addr, endp uint8) packets.Packet {
	return packets.Packet{Pid: pid, Addr: addr, Endp: endp}
}
func data(pid api.Pid, b ...byte) packets.Packet { return packets.Packet{Pid: pid, Data: b} }
func hand(pid api.Pid) packets.Packet            { return packets.Packet{Pid: pid} }

// mixed returns n bytes that differ.
func mixed(n, from int) []byte {
	out := make([]byte, n)
	for i := range out {
		out[i] = byte(from + i*i*31 + i*7)
	}
	return out
}

// shown returns a packet as a text, also one with an error.
func shown(p packets.Packet) string {
	if text := packets.Text(p); text != "" {
		return text
	}
	return "invalid " + strconv.Itoa(int(p.Pid)) + " " + strconv.Itoa(int(p.Addr)) + "." + strconv.Itoa(int(p.Endp)) + " with " + strconv.Itoa(len(p.Data)) + " bytes"
}

// answerText returns an answer as a text. Without an answer the packet is zero.
func answerText(p packets.Packet, ok bool) string {
	switch {
	case ok:
		return shown(p)
	case packets.Same(p, packets.Packet{}) && p.Data == nil:
		return "none"
	}
	return "none, but " + shown(p)
}

// listText returns packets as a text.
func listText(l [][]byte) string {
	words := make([]string, len(l))
	for i, b := range l {
		words[i] = shown(data(api.Data0, b...))
	}
	return "[" + strings.Join(words, ", ") + "]"
}

// short returns the beginning of a text, for messages.
func short(text string) string {
	if len(text) > 300 {
		return text[:300] + " .."
	}
	return text
}

// expect compares two texts.
func expect(t *testing.T, name, got, want string) {
	t.Helper()
	if got != want {
		t.Errorf("%s: %s; expected %s", name, short(got), short(want))
	}
}

// expectError compares two errors.
func expectError(t *testing.T, name string, got, want api.Errno) {
	t.Helper()
	if got != want {
		t.Errorf("%s: error %d; expected %d", name, got, want)
	}
}

// made returns an endpoint that can be made.
func made(t *testing.T, c endpoints.Config) *endpoints.Endpoint {
	t.Helper()
	e, err := endpoints.New(c)
	if err != api.OK || e == nil {
		t.Fatalf("New of %+v: error %d", c, err)
	}
	return e
}

// setOf returns a set with the address 5 and these endpoints.
func setOf(t *testing.T, l ...*endpoints.Endpoint) *endpoints.Set {
	t.Helper()
	s := endpoints.NewSet()
	if e := s.Address(5); e != api.OK {
		t.Fatalf("Address: error %d", e)
	}
	if e := s.Use(l...); e != api.OK {
		t.Fatalf("Use: error %d", e)
	}
	return s
}

// hears lets a set hear packets, and returns the answers as a text.
func hears(s *endpoints.Set, l ...packets.Packet) string {
	words := make([]string, len(l))
	for i, p := range l {
		words[i] = answerText(s.Hear(p))
	}
	return strings.Join(words, ", ")
}

// reply is what a Zero returns.
type reply struct {
	packet packets.Packet
	ok     bool
}

// keeper is a Zero that notes what it hears.
type keeper struct {
	heard []string
	reply reply
}

// Hear notes a packet, and answers it.
func (k *keeper) Hear(token api.Pid, p packets.Packet) (packets.Packet, bool) {
	k.heard = append(k.heard, strconv.Itoa(int(token))+" "+shown(p))
	return k.reply.packet, k.reply.ok
}

// text returns what a keeper has heard.
func (k *keeper) text() string { return "[" + strings.Join(k.heard, ", ") + "]" }

// keepers are all keepers that a machine has had.
type keepers struct{ all []*keeper }

// heardSame reports whether two machines have had as many keepers, which have
// heard as much, and the same last packet.
func (l *keepers) heardSame(other *keepers) bool {
	return slices.EqualFunc(l.all, other.all, func(a, b *keeper) bool {
		n := len(a.heard)
		return n == len(b.heard) && (n == 0 || a.heard[n-1] == b.heard[n-1])
	})
}

// zeroReplies are replies of a Zero of every sort.
func zeroReplies() []reply {
	return []reply{
		{hand(api.Ack), true}, {data(api.Data0, 4), true}, {data(api.Data1), true}, {hand(api.Nak), true}, {hand(api.Stall), true},
		{}, {data(api.Data0, 4), false}, {hand(api.Stall), false},
		{packets.Packet{}, true}, {hand(api.Nyet), true}, {token(api.In, 5, 1), true}, {data(api.Data1, mixed(1025, 1)...), true},
	}
}

// machine is a set with its endpoints, which are numbered from 0 on: the one of
// the package, or the model.
type machine interface {
	offer(i int, b []byte) api.Errno
	room(i, n int) api.Errno
	taken(i int) [][]byte
	halt(i int) api.Errno
	clear(i int) api.Errno
	address(a uint8) api.Errno
	use(l ...int) api.Errno
	zero(z *keeper) api.Errno
	hear(p packets.Packet) (packets.Packet, bool)
	waiting(i int) int
	halted(i int) bool
	// found returns the number of the endpoint in use at a place, or -1.
	found(number uint8, in bool) int
}

// bench is the machine of the package.
type bench struct {
	keepers
	set  *endpoints.Set
	ends []*endpoints.Endpoint
}

// newBench returns a bench with the endpoints of these configurations, all in use.
func newBench(t *testing.T, l []endpoints.Config) *bench {
	b := &bench{}
	for _, c := range l {
		b.ends = append(b.ends, made(t, c))
	}
	b.set = setOf(t, b.ends...)
	return b
}

func (b *bench) offer(i int, data []byte) api.Errno { return b.ends[i].Offer(data) }
func (b *bench) room(i, n int) api.Errno            { return b.ends[i].Room(n) }
func (b *bench) taken(i int) [][]byte               { return b.ends[i].Taken() }
func (b *bench) halt(i int) api.Errno               { return b.ends[i].Halt() }
func (b *bench) clear(i int) api.Errno              { return b.ends[i].Clear() }
func (b *bench) address(a uint8) api.Errno          { return b.set.Address(a) }
func (b *bench) zero(z *keeper) api.Errno {
	if z == nil {
		return b.set.Zero(nil)
	}
	b.all = append(b.all, z)
	return b.set.Zero(z)
}
func (b *bench) hear(p packets.Packet) (packets.Packet, bool) { return b.set.Hear(p) }

// use lets the set use endpoints; a negative number is a nil one.
func (b *bench) use(l ...int) api.Errno {
	var ends []*endpoints.Endpoint
	for _, i := range l {
		if i < 0 {
			ends = append(ends, nil)
		} else {
			ends = append(ends, b.ends[i])
		}
	}
	return b.set.Use(ends...)
}

func (b *bench) waiting(i int) int { return b.ends[i].Waiting() }
func (b *bench) halted(i int) bool { return b.ends[i].Halted() }
func (b *bench) found(number uint8, in bool) int {
	if e := b.set.Find(number, in); e != nil {
		return slices.Index(b.ends, e)
	}
	return -1
}
