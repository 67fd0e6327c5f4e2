package endpoints_test

import (
	"bytes"
	"math/rand"
	"slices"
	"testing"

	"plugboard/api"
	"plugboard/endpoints"
	"plugboard/packets"
)

// guarded is memory with more behind it, and what all of it was.
type guarded struct{ whole, was []byte }

// guard lays bytes into new memory.
func guard(b []byte) *guarded {
	whole := append(bytes.Clone(b), "behind it"...)
	return &guarded{whole, bytes.Clone(whole)}
}

// bytes returns the bytes, with spare capacity.
func (g *guarded) bytes() []byte { return g.whole[:len(g.whole)-len("behind it")] }

// stays reports whether nothing has changed.
func (g *guarded) stays() bool { return bytes.Equal(g.whole, g.was) }

// spoil overwrites the bytes of a slice, and what lies behind them.
func spoil(b []byte) {
	for i := range b[:cap(b)] {
		b[:cap(b)][i] ^= 0xff
	}
}

// expectTight checks that the capacity of a slice is its length.
func expectTight(t *testing.T, name string, length, capacity int) {
	t.Helper()
	if length != capacity {
		t.Errorf("%s: length %d, capacity %d", name, length, capacity)
	}
}

// TestR1Offer: Offer neither changes the bytes, or what lies behind them, nor
// keeps their memory.
func TestR1Offer(t *testing.T) {
	for _, kind := range allKinds {
		for _, n := range []int{0, 1, 8, 9} {
			e := made(t, endpoints.Config{Number: 1, In: true, Kind: kind, Max: 8})
			s := setOf(t, e)
			g := guard(mixed(n, 1))
			err := e.Offer(g.bytes())
			hears(s, hand(api.Ack))
			if !g.stays() {
				t.Errorf("Offer changes its argument of %d bytes", n)
			}
			spoil(g.whole)
			if p := hearOne(s); err == api.OK && !bytes.Equal(p.Data, g.was[:n]) {
				t.Errorf("kind %d: a packet changes with the argument of Offer: %s", kind, shown(p))
			}
			spoil(g.whole)
			hears(s, hand(api.Ack), token(api.In, 5, 1))
			if !g.stays() {
				t.Errorf("kind %d: the argument of Offer changes later", kind)
			}
		}
	}
}

// TestR1Hear: Hear neither changes the data of a packet, or what lies behind it,
// nor keeps its memory.
func TestR1Hear(t *testing.T) {
	for _, kind := range allKinds {
		for _, n := range []int{0, 1, 8, 9, 1024, 1025} {
			e := made(t, endpoints.Config{Number: 1, Kind: kind, Max: 8})
			s := setOf(t, e)
			e.Room(9)
			g := guard(mixed(n, 1))
			for _, pid := range []api.Pid{api.Data0, api.Data1, api.In, api.Ack} {
				hears(s, token(api.Out, 5, 1), packets.Packet{Pid: pid, Data: g.bytes()})
			}
			if !g.stays() {
				t.Errorf("Hear changes its argument of %d bytes", n)
			}
			spoil(g.whole)
			for _, b := range e.Taken() {
				if !bytes.Equal(b, g.was[:n]) {
					t.Errorf("kind %d: a packet that was taken changes with the argument of Hear: %v", kind, b)
				}
				spoil(b)
			}
			spoil(g.whole)
			if !g.stays() {
				t.Errorf("kind %d: a packet that was taken shares memory with the argument of Hear", kind)
			}
		}
	}
}

// TestR1Use: Use neither changes its list, or what lies behind it, nor keeps it.
func TestR1Use(t *testing.T) {
	whole := everyEndpoint(t)
	was := slices.Clone(whole)
	s := setOf(t)
	expectError(t, "Use", s.Use(whole[:4]...), api.OK)
	expectError(t, "Use of a list with nil", s.Use(append(whole[:4:4], nil)...), api.ErrNil)
	if !slices.Equal(whole, was) {
		t.Error("Use changes its list")
	}
	whole[0], whole[1] = nil, whole[9]
	expectFound(t, "a list that changes", s, was[:4]...)
	s.Use(whole[2:3]...)
	s.Use()
	if whole[2] != was[2] || whole[3] != was[3] {
		t.Error("Use changes its list later")
	}
}

// rude is a Zero that spoils the memory of what it hears, and that of its last
// answer when it hears the next packet.
type rude struct {
	length int
	memory []byte
}

// Hear answers with data.
func (r *rude) Hear(_ api.Pid, p packets.Packet) (packets.Packet, bool) {
	spoil(p.Data)
	spoil(r.memory)
	r.memory = mixed(r.length, 5)
	return packets.Packet{Pid: api.Data1, Data: r.memory[:r.length/2]}, true
}

// TestR1Zero: what a Zero hears is its own, and what it has answered with remains.
func TestR1Zero(t *testing.T) {
	for _, n := range []int{0, 1, 8, 1024} {
		r := &rude{length: 2 * n}
		s := setOf(t)
		s.Zero(r)
		var answers []packets.Packet
		for _, p := range []packets.Packet{token(api.In, 5, 0), token(api.Setup, 5, 0), hand(api.Data0), token(api.Out, 5, 0), hand(api.Data1), token(api.In, 5, 0), hand(api.Ack)} {
			g := guard(nil)
			if p.Pid == api.Data0 || p.Pid == api.Data1 {
				g = guard(mixed(n, 1))
				p.Data = g.bytes()
			}
			if answer, ok := s.Hear(p); ok {
				answers = append(answers, answer)
			}
			if !g.stays() {
				t.Errorf("a Zero changes the argument of Hear with %d bytes", n)
			}
		}
		if len(answers) != 4 {
			t.Fatalf("%d answers", len(answers))
		}
		was := bytes.Clone(r.memory)
		for _, p := range answers {
			if !bytes.Equal(p.Data, mixed(n, 5)) {
				t.Errorf("an answer changes with the memory of the Zero: %s", shown(p))
			}
			expectTight(t, "an answer of the Zero", len(p.Data), cap(p.Data))
			spoil(p.Data)
			if !bytes.Equal(r.memory, was) {
				t.Error("an answer shares memory with the Zero")
			}
		}
	}
}

// echo is a Zero that answers with what it hears.
type echo struct{}

// Hear answers with the packet.
func (echo) Hear(_ api.Pid, p packets.Packet) (packets.Packet, bool) { return p, true }

// TestR4Echo: an answer shares nothing with what was heard.
func TestR4Echo(t *testing.T) {
	s := setOf(t)
	s.Zero(echo{})
	g := guard(mixed(8, 2))
	s.Hear(token(api.Setup, 5, 0))
	p, ok := s.Hear(packets.Packet{Pid: api.Data0, Data: g.bytes()})
	if !ok || !bytes.Equal(p.Data, mixed(8, 2)) {
		t.Errorf("an echo: %s, %t", shown(p), ok)
	}
	expectTight(t, "an echo", len(p.Data), cap(p.Data))
	spoil(p.Data)
	if !g.stays() {
		t.Error("an echo shares memory with what was heard")
	}
}

// TestR4Answers: packets that are read are new memory, also those that are read
// again.
func TestR4Answers(t *testing.T) {
	for _, kind := range allKinds {
		for _, n := range []int{0, 1, 5, 33, 1024} {
			e := made(t, endpoints.Config{Number: 1, In: true, Kind: kind, Max: 1024})
			s := setOf(t, e)
			e.Offer(mixed(n, 1))
			e.Offer(mixed(n, 1))
			for i := range 4 {
				p := hearOne(s)
				if kind == api.Isochronous && i >= 2 {
					expect(t, "a packet without data", shown(p), "data0")
				} else if !bytes.Equal(p.Data, mixed(n, 1)) {
					t.Errorf("kind %d: packet %d is %s", kind, i, short(shown(p)))
				}
				expectTight(t, "a packet", len(p.Data), cap(p.Data))
				spoil(p.Data)
				if i == 2 {
					hears(s, hand(api.Ack))
				}
			}
		}
	}
}

// TestR4Taken: lists of packets that were taken, and the packets, are new memory.
func TestR4Taken(t *testing.T) {
	for _, kind := range allKinds {
		e := made(t, endpoints.Config{Number: 1, Kind: kind, Max: 64})
		s := setOf(t, e)
		e.Room(endpoints.MaxRoom)
		var lists [][][]byte
		expectTight(t, "an empty list", len(e.Taken()), cap(e.Taken()))
		for n := range 6 {
			e.Clear()
			write(s, kind, n)
			lists = append(lists, e.Taken())
		}
		for n, l := range lists {
			if len(l) != n {
				t.Errorf("kind %d: list %d has %d packets", kind, n, len(l))
			}
			expectTight(t, "a list", len(l), cap(l))
			for i, b := range l {
				if !bytes.Equal(b, []byte{byte(i)}) {
					t.Errorf("kind %d: packet %d of list %d is %v", kind, i, n, b)
				}
				expectTight(t, "a packet of a list", len(b), cap(b))
				spoil(b)
			}
			for i := range l {
				l[i] = nil
			}
		}
	}
}

// TestR2NothingChanges: with an error, nothing changes.
func TestR2NothingChanges(t *testing.T) {
	failing := []act{
		address(128), use(-1), use(0, 0), use(0, -1, 0), offer(0, 1, 2, 3, 4), offer(1, 1), room(0, 1), room(1, -1), room(1, 4097),
	}
	for _, kind := range allKinds {
		for _, state := range append(readStates(), writeStates()...) {
			for _, expectation := range expectations() {
				for _, a := range failing {
					for _, probe := range probes() {
						configs := configsOf(kind)
						with, without := newBench(t, configs), newBench(t, configs)
						for _, b := range joined(state, expectation) {
							b.do(with)
							b.do(without)
						}
						if got := a.do(with); got == errorText(api.OK) {
							t.Fatalf("%s has no error", a.name)
						}
						for _, b := range joined(probe, []act{taken(1)}) {
							if got, want := b.do(with), b.do(without); got != want {
								t.Fatalf("%s; %s; %s: %s; without the error %s", namesOf(state), a.name, b.name, got, want)
							}
						}
					}
				}
			}
		}
	}
}

// TestR3NilIsEmpty: nil and empty bytes are the same argument, and so are nil
// and empty lists.
func TestR3NilIsEmpty(t *testing.T) {
	for _, b := range [][]byte{nil, {}, make([]byte, 0, 5)} {
		in := made(t, endpoints.Config{Number: 1, In: true, Kind: api.Bulk, Max: 1})
		out := made(t, endpoints.Config{Number: 1, Kind: api.Bulk, Max: 1})
		s := setOf(t, in, out)
		out.Room(2)
		expectError(t, "Offer of nothing", in.Offer(b), api.OK)
		if in.Waiting() != 1 {
			t.Errorf("%d packets wait", in.Waiting())
		}
		got := hears(s, packets.Packet{Pid: api.In, Addr: 5, Endp: 1, Data: b}, packets.Packet{Pid: api.Ack, Data: b}, token(api.In, 5, 1), token(api.Out, 5, 1), packets.Packet{Pid: api.Data0, Data: b})
		expect(t, "packets without data", got, "data0, none, nak, none, ack")
		expect(t, "Taken", listText(out.Taken()), "[data0]")
	}
	for _, l := range [][]*endpoints.Endpoint{nil, {}} {
		s := setOf(t, everyEndpoint(t)...)
		expectError(t, "Use of nothing", s.Use(l...), api.OK)
		expectFound(t, "behind Use of nothing", s)
	}
}

// TestP1Apart: sets, and endpoints, do not depend on each other.
func TestP1Apart(t *testing.T) {
	c := endpoints.Config{Number: 1, In: true, Kind: api.Bulk, Max: 8}
	a, b := made(t, c), made(t, c)
	s, other := setOf(t, a), setOf(t, b)
	a.Offer([]byte{1})
	a.Halt()
	s.Address(7)
	s.Zero(&keeper{reply: reply{hand(api.Stall), true}})
	expect(t, "the other set", hears(other, token(api.In, 5, 1), token(api.In, 5, 0)), "nak, none")
	expect(t, "the first set", hears(s, token(api.In, 7, 1), token(api.In, 7, 0)), "stall, stall")
	s.Use()
	expectFound(t, "the other set", other, b)
	if b.Waiting() != 0 || b.Halted() {
		t.Error("an endpoint changes with another one")
	}
}

// script is a source of numbers that are written down.
type script struct{ left []byte }

// Int63 returns the next number, in the bits that math/rand begins with, and 0
// behind the last one.
func (s *script) Int63() int64 {
	if len(s.left) == 0 {
		return 0
	}
	next := s.left[0]
	s.left = s.left[1:]
	return int64(next) << 32
}

// Seed does nothing.
func (s *script) Seed(int64) {}

// FuzzActs: any acts, with an endpoint of each kind.
func FuzzActs(f *testing.F) {
	f.Add([]byte{})
	f.Add([]byte("endpoints of a device"))
	f.Add(mixed(200, 3))
	l := anyPackets()
	f.Fuzz(func(t *testing.T, b []byte) {
		s := &script{left: b}
		source := rand.New(s)
		var acts []act
		for len(s.left) > 0 {
			acts = append(acts, anyAct(source, l))
		}
		for _, kind := range allKinds {
			expectRun(t, configsOf(kind), acts)
		}
	})
}
