package endpoints_test

import (
	"math/rand"
	"slices"
	"testing"

	"plugboard/api"
	"plugboard/endpoints"
	"plugboard/packets"
)

// TestP7_6Examples: the table of the chapter.
func TestP7_6Examples(t *testing.T) {
	in := made(t, endpoints.Config{Number: 1, In: true, Kind: api.Bulk, Max: 8})
	out := made(t, endpoints.Config{Number: 1, Kind: api.Bulk, Max: 8})
	s := setOf(t, in, out)
	read, write := token(api.In, 5, 1), token(api.Out, 5, 1)
	data01, data12, data02 := data(api.Data0, 1), data(api.Data1, 2), data(api.Data0, 2)
	expect(t, "without a packet", hears(s, read), "nak")
	expectError(t, "Offer", in.Offer([]byte{7}), api.OK)
	expect(t, "with a packet", hears(s, read, read, hand(api.Ack), read), "data0 07, data0 07, none, nak")
	expect(t, "without room", hears(s, write, data01), "none, nak")
	expectError(t, "Room", out.Room(1), api.OK)
	expect(t, "with room", hears(s, write, data01, write, data01), "none, ack, none, ack")
	expect(t, "Taken", listText(out.Taken()), "[data0 01]")
	expectError(t, "Halt", out.Halt(), api.OK)
	expect(t, "halted", hears(s, write, data12), "none, stall")
	expectError(t, "Clear", out.Clear(), api.OK)
	expect(t, "cleared", hears(s, write, data12, write, data02), "none, ack, none, nak")
	expect(t, "not for an endpoint", hears(s, token(api.In, 6, 1), token(api.In, 5, 2), token(api.Setup, 5, 1), data01), "none, none, none, none")
	for _, want := range []api.Errno{api.OK, api.OK, api.ErrFull} {
		expectError(t, "Offer", in.Offer([]byte{7}), want)
	}
}

// configsOf returns the endpoints of the tests: 0 is endpoint 1 with In set, 1
// the other endpoint 1, both of this kind with Max 3; 2 and 3 are others.
func configsOf(kind api.Kind) []endpoints.Config {
	return []endpoints.Config{
		{Number: 1, In: true, Kind: kind, Max: 3}, {Number: 1, Kind: kind, Max: 3},
		{Number: 15, In: true, Kind: api.Bulk, Max: 1}, {Number: 2, Kind: api.Interrupt, Max: 2},
	}
}

// badPackets are packets with an error.
func badPackets() []packets.Packet {
	return []packets.Packet{
		{}, hand(4), hand(255), token(api.In, 128, 1), token(api.Out, 5, 16), token(api.Setup, 133, 0), token(api.Ack, 5, 0), data(api.Ack, 1),
		{Pid: api.Data0, Addr: 5}, {Pid: api.Data1, Endp: 1, Data: []byte{1}}, data(api.Data0, mixed(1025, 1)...),
		{Pid: api.In, Addr: 5, Endp: 1, Frame: 1}, {Pid: api.Sof, Frame: 2048}, data(api.In, 1),
	}
}

// anyPackets are packets of every sort, for the endpoints of configsOf.
func anyPackets() []packets.Packet {
	out := badPackets()
	for _, pid := range []api.Pid{api.Out, api.In, api.Setup} {
		for _, endp := range []uint8{0, 1, 2, 3, 15} {
			out = append(out, token(pid, 5, endp))
		}
		out = append(out, token(pid, 6, 0), token(pid, 6, 1), token(pid, 0, 1))
	}
	for _, pid := range []api.Pid{api.Data0, api.Data1} {
		for _, n := range []int{0, 1, 3, 4} {
			out = append(out, data(pid, mixed(n, 6)...))
		}
	}
	for _, pid := range []api.Pid{api.Ack, api.Nak, api.Stall, api.Nyet, api.Sof, api.Split} {
		out = append(out, hand(pid))
	}
	return out
}

// TestP7_6Samples: the packets above have an error, or none, as they should.
func TestP7_6Samples(t *testing.T) {
	n := len(badPackets())
	for i, p := range anyPackets() {
		if bad := packets.Check(p) != api.OK; bad != (i < n) {
			t.Errorf("packet %d, %s: an error: %t", i, shown(p), bad)
		}
	}
}

// readStates lead endpoint 0 to each state: its toggle, its queue, and whether it
// is halted.
func readStates() [][]act {
	var out [][]act
	for _, toggle := range either {
		for queued := range 3 {
			for _, halts := range either {
				var l []act
				if toggle {
					l = append(l, offer(0, 9), hear(token(api.In, 5, 1)), hear(hand(api.Ack)))
				}
				for i := range queued {
					l = append(l, offer(0, mixed(3-2*i, i)...))
				}
				if halts {
					l = append(l, halt(0))
				}
				out = append(out, l)
			}
		}
	}
	return out
}

// writeStates lead endpoint 1 to each state: its toggle, its room, and whether it
// is halted.
func writeStates() [][]act {
	var out [][]act
	for _, toggle := range either {
		for space := range 3 {
			for _, halts := range either {
				var l []act
				if toggle {
					l = append(l, room(1, 1), hear(token(api.Out, 5, 1)), hear(data(api.Data0, 8)))
				}
				l = append(l, room(1, space))
				if halts {
					l = append(l, halt(1))
				}
				out = append(out, l)
			}
		}
	}
	return out
}

// expectations let the set expect everything that it can, and nothing.
func expectations() [][]act {
	return [][]act{
		{hear(hand(api.Sof))},
		{hear(token(api.Out, 5, 0))}, {hear(token(api.Setup, 5, 0))}, {hear(token(api.In, 5, 0))},
		{hear(token(api.Out, 5, 1))}, {hear(token(api.In, 5, 1))},
	}
}

// probes show what the set expects, and which toggles the endpoints have.
func probes() [][]act {
	read, write := hear(token(api.In, 5, 1)), hear(token(api.Out, 5, 1))
	data0, data1, ack := hear(data(api.Data0, 1)), hear(data(api.Data1, 2)), hear(hand(api.Ack))
	return [][]act{
		{data0, ack, read}, {data1, read, write, data0}, {ack, write, data1, read, ack, read},
	}
}

// joined returns acts one behind the other.
func joined(l ...[]act) []act { return slices.Concat(l...) }

// TestP7_6EachPacket: all packets in all states of an endpoint of each kind and
// direction, for all that the set may expect, with and without a Zero; what is
// expected behind them, and all states, are those of the definition.
func TestP7_6EachPacket(t *testing.T) {
	states := append(readStates(), writeStates()...)
	zeros := [][]act{nil, {withZero(reply{data(api.Data1, 4), true})}, {withZero(reply{hand(api.Nak), true})}}
	for _, kind := range allKinds {
		for _, state := range states {
			for _, zero := range zeros {
				for _, expectation := range expectations() {
					for _, p := range anyPackets() {
						for _, probe := range probes() {
							if !expectRun(t, configsOf(kind), joined(zero, state, expectation, []act{hear(p)}, probe)) {
								return
							}
						}
					}
				}
			}
		}
	}
}

// TestP7_5Expectations: behind Address, Use and Zero the set does not expect
// anything any more, even if nothing else changes by them; but if they are
// refused, and behind all that is done with endpoints, it does.
func TestP7_5Expectations(t *testing.T) {
	acts := []act{
		address(5), address(0), address(127), address(128), address(255),
		use(), use(0, 1, 2, 3), use(3, 0), use(0, -1), use(-1), use(0, 0), use(1, 2, 1), use(0, 0, -1),
		withoutZero(), withZero(reply{hand(api.Stall), true}),
		offer(0, 1), offer(0, 1, 2, 3, 4), offer(1, 1), room(1, 2), room(1, -1), room(0, 1), taken(0), taken(1),
		halt(0), halt(1), clearing(0), clearing(1), halt(3), clearing(2),
	}
	states := append(readStates(), writeStates()...)
	zeros := [][]act{nil, {withZero(reply{data(api.Data1, 4), true})}}
	for _, kind := range allKinds {
		for _, state := range states {
			for _, zero := range zeros {
				for _, expectation := range expectations() {
					for _, a := range acts {
						for _, probe := range probes() {
							if !expectRun(t, configsOf(kind), joined(zero, state, expectation, []act{a}, probe)) {
								return
							}
						}
					}
				}
			}
		}
	}
}

// TestP7_6ZeroReplies: all replies of a Zero to all packets that it hears, and
// what the set expects behind them.
func TestP7_6ZeroReplies(t *testing.T) {
	for _, r := range zeroReplies() {
		for _, expectation := range expectations() {
			for _, p := range anyPackets() {
				for _, probe := range probes() {
					expectRun(t, configsOf(api.Bulk), joined([]act{withZero(r)}, expectation, []act{hear(p)}, probe))
				}
			}
		}
	}
}

// TestP7_6ZeroHears: a Zero hears exactly what is for it, with the token in front
// of it, and its replies are the answers, but for that to an acknowledgement.
func TestP7_6ZeroHears(t *testing.T) {
	s := setOf(t)
	k := &keeper{reply: reply{data(api.Data0, 3), true}}
	s.Zero(k)
	setup, bytes := token(api.Setup, 5, 0), data(api.Data0, mixed(8, 0)...)
	got := hears(s, setup, bytes, token(api.In, 5, 0), hand(api.Ack), hand(api.Ack), token(api.Out, 5, 0), data(api.Data1), data(api.Data1), token(api.In, 6, 0), hand(api.Ack), token(api.In, 5, 0), hand(api.Nak), hand(api.Ack))
	expect(t, "answers", got, "none, data0 03, data0 03, none, none, none, data0 03, none, none, none, data0 03, none, none")
	expect(t, "heard", k.text(), "[13 "+shown(bytes)+", 9 in 5.0, 9 ack, 1 data1, 9 in 5.0]")
}

// caller is a Zero that calls its set, as one that handles requests does.
type caller struct {
	keeper
	call func()
}

// Hear calls the set, and answers then.
func (c *caller) Hear(token api.Pid, p packets.Packet) (packets.Packet, bool) {
	c.call()
	return c.keeper.Hear(token, p)
}

// TestP7_6ZeroCallsSet: a Zero may change the set while it hears. What it answers
// with is expected to be acknowledged nevertheless.
func TestP7_6ZeroCallsSet(t *testing.T) {
	in := made(t, endpoints.Config{Number: 1, In: true, Kind: api.Bulk, Max: 8})
	s := setOf(t)
	c := &caller{keeper: keeper{reply: reply{data(api.Data1), true}}}
	s.Zero(c)
	for name, call := range map[string]func(){
		"nothing": func() {}, "Address": func() { s.Address(5) }, "Use": func() { s.Use(in) }, "Zero": func() { s.Zero(c) },
		"Hear": func() { s.Use(in); in.Offer([]byte{1}); c.call = func() {}; s.Hear(token(api.In, 5, 1)) },
	} {
		c.call, c.heard = call, nil
		expect(t, name, hears(s, token(api.In, 5, 0), hand(api.Ack), hand(api.Ack)), "data1, none, none")
		expect(t, name+", heard", c.text(), "[9 in 5.0, 9 ack]")
	}
	if in.Waiting() != 1 {
		t.Errorf("%d packets wait: the acknowledgement was for the Zero", in.Waiting())
	}
	c.call, c.heard = func() { s.Zero(nil) }, nil
	expect(t, "Zero of nil", hears(s, token(api.In, 5, 0), hand(api.Ack), token(api.In, 5, 0)), "data1, none, none")
	expect(t, "Zero of nil, heard", c.text(), "[9 in 5.0]")
}

// TestP7_6Addresses: each address; tokens for others are not answered, and those
// in front of data let it not be expected.
func TestP7_6Addresses(t *testing.T) {
	for own := range uint8(128) {
		in := made(t, endpoints.Config{Number: 1, In: true, Kind: api.Bulk, Max: 8})
		out := made(t, endpoints.Config{Number: 1, Kind: api.Bulk, Max: 8})
		s := setOf(t, in, out)
		k := &keeper{reply: reply{hand(api.Stall), true}}
		s.Zero(k)
		s.Address(own)
		for addr := range uint8(128) {
			want := "none, none, none, none, none, none, none, none"
			if addr == own {
				want = "nak, stall, none, nak, none, stall, none, stall"
			}
			got := hears(s, token(api.In, addr, 1), token(api.In, addr, 0),
				token(api.Out, addr, 1), data(api.Data0, 1), token(api.Out, addr, 0), data(api.Data0, 1), token(api.Setup, addr, 0), data(api.Data0, 1))
			if got != want {
				t.Fatalf("the set listens to %d, tokens are for %d: %s", own, addr, got)
			}
		}
		if len(k.heard) != 3 {
			t.Errorf("the Zero has heard %s", k.text())
		}
	}
}

// TestP7_6Places: each endpoint of a set with all of them answers for itself.
func TestP7_6Places(t *testing.T) {
	l := everyEndpoint(t)
	s := setOf(t, l...)
	for i, e := range l {
		number := e.Config().Number
		e.Offer([]byte{byte(i)})
		e.Room(1)
		if e.Config().In {
			expect(t, "In", hears(s, token(api.In, 5, number), hand(api.Ack), token(api.In, 5, number)), shown(data(api.Data0, byte(i)))+", none, nak")
			continue
		}
		expect(t, "Out", hears(s, token(api.Out, 5, number), data(api.Data0, byte(i)), token(api.Setup, 5, number), data(api.Data1, byte(i))), "none, ack, none, none")
		expect(t, "Taken", listText(e.Taken()), "["+shown(data(api.Data0, byte(i)))+"]")
	}
	for _, e := range l {
		if e.Waiting() != 0 || len(e.Taken()) != 0 {
			t.Errorf("endpoint %+v has packets that were not for it", e.Config())
		}
	}
}

// TestP7_6Isochronous: packets are removed when they are read, and taken only
// with Data0; there are no handshakes.
func TestP7_6Isochronous(t *testing.T) {
	in := made(t, endpoints.Config{Number: 1, In: true, Kind: api.Isochronous, Max: 8})
	out := made(t, endpoints.Config{Number: 1, Kind: api.Isochronous, Max: 8})
	s := setOf(t, in, out)
	in.Offer([]byte{1})
	in.Offer([]byte{2})
	read, write := token(api.In, 5, 1), token(api.Out, 5, 1)
	expect(t, "reads", hears(s, read, hand(api.Ack), read, read, hand(api.Ack), read), "data0 01, none, data0 02, data0, none, data0")
	out.Room(2)
	got := hears(s, write, data(api.Data1, 3), write, data(api.Data0, 4), write, data(api.Data0, 4), write, data(api.Data0, 5))
	expect(t, "writes", got, "none, none, none, none, none, none, none, none")
	expect(t, "Taken", listText(out.Taken()), "[data0 04, data0 04]")
}

// anyAct returns an act at random, for the endpoints of configsOf.
func anyAct(source *rand.Rand, l []packets.Packet) act {
	end := source.Intn(4)
	switch source.Intn(40) {
	case 0:
		return address([]uint8{0, 5, 5, 5, 5, 6, 128}[source.Intn(7)])
	case 1:
		return use([][]int{{}, {0, 1, 2, 3}, {0, 1, 2, 3}, {0, 1, 2, 3}, {1, 0}, {0, 0}, {-1, 0}}[source.Intn(7)]...)
	case 2:
		return withZero(zeroReplies()[source.Intn(len(zeroReplies()))])
	case 3:
		return withoutZero()
	case 4:
		return halt(end)
	case 5, 6:
		return clearing(end)
	case 7, 8, 9:
		return room(end, source.Intn(4))
	case 10, 11, 12, 13, 14:
		return offer(end, mixed(source.Intn(5), source.Intn(9))...)
	case 15:
		return taken(end)
	case 16, 17, 18, 19:
		return hear(l[source.Intn(len(l))])
	case 20, 21, 22, 23:
		return hear(hand(api.Ack))
	case 24, 25, 26, 27, 28:
		return hear(data([]api.Pid{api.Data0, api.Data1}[source.Intn(2)], mixed(source.Intn(5), source.Intn(9))...))
	case 29, 30, 31, 32, 33, 34:
		return hear(token(api.In, 5, []uint8{0, 1, 1, 15}[source.Intn(4)]))
	}
	return hear(token([]api.Pid{api.Out, api.Setup}[source.Intn(8)/7], 5, []uint8{0, 1, 1, 2}[source.Intn(4)]))
}

// TestP7_6LongRuns: many acts at random.
func TestP7_6LongRuns(t *testing.T) {
	source := rand.New(rand.NewSource(7))
	l := anyPackets()
	for range 600 {
		acts := make([]act, 300)
		for i := range acts {
			acts[i] = anyAct(source, l)
		}
		if !expectRun(t, configsOf(allKinds[source.Intn(3)]), acts) {
			return
		}
	}
}
