package transactions_test

import (
	"slices"
	"testing"

	"plugboard/api"
	"plugboard/packets"
	"plugboard/transactions"
)

// story is what a transaction comes to.
type story struct {
	outcome transactions.Outcome
	sent    []transactions.Sent
	heard   []packets.Packet
}

// text returns a story as a text.
func (s *story) text() string {
	return outcomeText(s.outcome) + "; sent " + sentText(s.sent) + "; heard " + heardText(s.heard)
}

// host lets the host send a packet that can arrive or not, by definition: the
// packet in place i of what is sent has the fault i. The device answers with r.
func (s *story) host(p packets.Packet, can bool, r reply, faults []transactions.Fault) api.Pid {
	say := func(p packets.Packet, byHost bool) bool {
		f := good
		if len(s.sent) < len(faults) {
			f = faults[len(s.sent)]
		}
		s.sent = append(s.sent, transactions.Sent{Packet: p, Host: byHost, Fault: f})
		return f == good
	}
	if !say(p, true) || !can {
		return 0
	}
	s.heard = append(s.heard, p)
	if !r.ok || packets.Check(r.packet) != api.OK || !say(r.packet, false) {
		return 0
	}
	return r.packet.Pid
}

// handshakes are the results of answers that are handshakes; all others have the
// result None.
var handshakes = map[struct {
	what api.Pid
	iso  bool
	pid  api.Pid
}]transactions.Result{
	{api.In, false, api.Nak}:    transactions.Nak,
	{api.In, false, api.Stall}:  transactions.Stall,
	{api.Out, false, api.Ack}:   transactions.Done,
	{api.Out, false, api.Nak}:   transactions.Nak,
	{api.Out, false, api.Stall}: transactions.Stall,
	{api.Setup, false, api.Ack}: transactions.Done,
}

// tell returns what a transaction comes to, by definition, if the device answers
// tokens with the first reply, and all other packets with the second one.
func tell(x transactions.Try, faults []transactions.Fault, tokens, others reply) *story {
	s := &story{}
	next, other := api.Data0, api.Data1
	if x.Toggle {
		next, other = other, next
	}
	pid := s.host(token(x.What, x.Addr, x.Endp), true, tokens, faults)
	if x.What != api.In {
		arrived := s.sent[0].Fault == good
		pid = s.host(data(next, x.Data...), arrived, others, faults)
	}
	isData := x.What == api.In && (pid == api.Data0 || pid == api.Data1)
	switch result := handshakes[struct {
		what api.Pid
		iso  bool
		pid  api.Pid
	}{x.What, x.Iso, pid}]; {
	case x.What != api.In && x.Iso:
		s.outcome.Result = transactions.Done
	case isData && len(tokens.packet.Data) > x.Max:
		s.outcome.Result = transactions.Babble
	case isData && (x.Iso || pid == next):
		s.outcome = transactions.Outcome{Result: transactions.Done, Data: tokens.packet.Data}
	case isData && pid == other:
		s.outcome.Result = transactions.Again
	case result != 0:
		s.outcome.Result = result
	default:
		s.outcome.Result = transactions.None
	}
	if isData && !x.Iso && s.outcome.Result != transactions.Babble {
		s.host(hand(api.Ack), true, others, faults)
	}
	return s
}

// expectDo compares Do with the definition.
func expectDo(t *testing.T, x transactions.Try, faults []transactions.Fault, tokens, others reply) {
	t.Helper()
	want := tell(x, faults, tokens, others)
	d, w := scripted(tokens, others), &meter{faults: faults}
	got := &story{}
	got.outcome, got.sent = transactions.Do(d, w, x)
	got.heard = d.heard
	if w.asked != len(got.sent) || !got.equals(want) {
		t.Errorf("%s, %s, answers %s and %s: %d faults used; %s; expected %s", tryText(x), faultsText(faults),
			short(shown(tokens.packet)), short(shown(others.packet)), w.asked, short(got.text()), short(want.text()))
	}
	if cap(got.sent) != len(got.sent) {
		t.Errorf("%s, %s: %d packets sent, capacity %d", tryText(x), faultsText(faults), len(got.sent), cap(got.sent))
	}
}

// equals reports whether two stories are the same.
func (s *story) equals(o *story) bool {
	return s.outcome.Result == o.outcome.Result && slices.Equal(s.outcome.Data, o.outcome.Data) &&
		slices.EqualFunc(s.heard, o.heard, packets.Same) &&
		slices.EqualFunc(s.sent, o.sent, func(a, b transactions.Sent) bool {
			return a.Host == b.Host && a.Fault == b.Fault && packets.Same(a.Packet, b.Packet)
		})
}

// TestP6_4Examples: the table of the chapter.
func TestP6_4Examples(t *testing.T) {
	for _, c := range []struct {
		x      transactions.Try
		faults []transactions.Fault
		want   string
	}{
		{transactions.Try{What: api.In, Max: 8}, nil, "done 7; sent >in 0.0, <data0 07, >ack; heard in 0.0, ack"},
		{transactions.Try{What: api.In, Max: 8, Toggle: true}, nil, "again; sent >in 0.0, <data0 07, >ack; heard in 0.0, ack"},
		{transactions.Try{What: api.In}, nil, "babble; sent >in 0.0, <data0 07; heard in 0.0"},
		{transactions.Try{What: api.In, Max: 8}, []transactions.Fault{good, lost}, "none; sent >in 0.0, <data0 07!1; heard in 0.0"},
		{transactions.Try{What: api.Out, Data: []byte{1}}, []transactions.Fault{lost}, "none; sent >out 0.0!1, >data0 01; heard "},
		{transactions.Try{What: api.Out, Data: []byte{1}}, []transactions.Fault{good, damaged}, "none; sent >out 0.0, >data0 01!2; heard out 0.0"},
		{transactions.Try{What: api.Setup, Data: mixed(7, 1)}, nil, "zero; sent ; heard "},
	} {
		d := &gadget{reply: func(p packets.Packet) reply {
			switch p.Pid {
			case api.In:
				return answer(data(api.Data0, 7))
			case api.Data0, api.Data1:
				return answer(hand(api.Ack))
			}
			return silent
		}}
		got := &story{}
		got.outcome, got.sent = transactions.Do(d, transactions.NewLine(c.faults...), c.x)
		got.heard = d.heard
		expect(t, tryText(c.x)+", "+faultsText(c.faults), got.text(), c.want)
	}
}

// TestP6_4Answers: all samples with all answers, and packets that are lost or not.
func TestP6_4Answers(t *testing.T) {
	for _, x := range samples() {
		for _, tokens := range replies() {
			for _, others := range replies() {
				eachFaults(2, []transactions.Fault{good, lost}, func(l []transactions.Fault) { expectDo(t, x, l, tokens, others) })
			}
		}
	}
}

// TestP6_4Faults: all lists of faults, also those that run out in the middle of
// a transaction, with the answers that matter.
func TestP6_4Faults(t *testing.T) {
	tokens := []reply{silent, answer(hand(api.Nak)), answer(hand(api.Ack)), answer(data(api.Data0, 7)), answer(data(api.Data1, 8)), answer(data(api.Ack, 7))}
	others := []reply{silent, answer(hand(api.Ack)), answer(hand(api.Nak)), answer(hand(api.Stall))}
	for _, x := range []transactions.Try{
		{What: api.In, Max: 1}, {What: api.In, Max: 1, Toggle: true}, {What: api.In, Max: 1, Iso: true}, {What: api.In},
		{What: api.Out, Data: []byte{5}}, {What: api.Out, Data: []byte{5}, Toggle: true}, {What: api.Out, Data: []byte{5}, Iso: true},
		{What: api.Setup, Data: mixed(8, 1)},
	} {
		for _, first := range tokens {
			for _, second := range others {
				eachFaults(5, anyFault, func(l []transactions.Fault) { expectDo(t, x, l, first, second) })
			}
		}
	}
}

// TestP6_4Lengths: the greatest number of bytes at its edges: data of each
// length near it, with either toggle.
func TestP6_4Lengths(t *testing.T) {
	for _, most := range []int{0, 1, 2, 7, 8, 9, 63, 64, 65, 1022, 1023, 1024} {
		for _, n := range []int{0, 1, most - 1, most, most + 1, 1023, 1024, 1025} {
			for _, pid := range []api.Pid{api.Data0, api.Data1} {
				for _, flags := range [][2]bool{{false, false}, {true, false}, {false, true}} {
					x := transactions.Try{What: api.In, Max: most, Toggle: flags[0], Iso: flags[1]}
					expectDo(t, x, nil, answer(data(pid, mixed(max(n, 0), 1)...)), silent)
				}
			}
		}
	}
}

// TestP6_4Numbers: the token has the address and the number of the endpoint.
func TestP6_4Numbers(t *testing.T) {
	for addr := range 128 {
		for endp := range 16 {
			for _, x := range []transactions.Try{{What: api.In, Max: 1}, {What: api.Out}, {What: api.Setup, Data: mixed(8, 1)}} {
				x.Addr, x.Endp = uint8(addr), uint8(endp)
				expectDo(t, x, nil, answer(data(api.Data0, 1)), answer(hand(api.Ack)))
			}
		}
	}
}

// TestP6_4Errors: with an error nothing is sent, and the outcome is zero.
func TestP6_4Errors(t *testing.T) {
	d, w := scripted(answer(data(api.Data0, 7)), answer(hand(api.Ack))), &meter{faults: []transactions.Fault{lost}}
	eachTry(allKinds(), []uint8{0, 127, 128}, []uint8{0, 15, 16}, func(x transactions.Try) {
		if errorOf(x) == api.OK {
			return
		}
		o, sent := transactions.Do(d, w, x)
		if o.Result != 0 || o.Data != nil || sent != nil || len(d.heard) > 0 || w.asked > 0 {
			t.Fatalf("%s: %s, sent %s, heard %s, %d faults", tryText(x), outcomeText(o), sentText(sent), heardText(d.heard), w.asked)
		}
	})
}

// TestP6_4AllTries: whatever has no error is performed.
func TestP6_4AllTries(t *testing.T) {
	eachTry([]api.Pid{api.In, api.Out, api.Setup}, []uint8{0, 1, 127}, []uint8{0, 15}, func(x transactions.Try) {
		if errorOf(x) == api.OK {
			expectDo(t, x, nil, answer(data(api.Data1, 7, 8)), answer(hand(api.Ack)))
			expectDo(t, x, []transactions.Fault{good, lost}, answer(hand(api.Stall)), silent)
		}
	})
}

// TestP6_4Nobody: without a device nobody answers, and without a wire all
// packets arrive.
func TestP6_4Nobody(t *testing.T) {
	for _, x := range samples() {
		want := tell(x, []transactions.Fault{damaged}, silent, silent)
		o, sent := transactions.Do(nil, transactions.NewLine(damaged), x)
		expect(t, tryText(x)+" with nobody", (&story{o, sent, nil}).text(), want.text())
		want = tell(x, nil, silent, silent)
		want.heard = nil
		o, sent = transactions.Do(nil, nil, x)
		expect(t, tryText(x)+" with nothing", (&story{o, sent, nil}).text(), want.text())

		tokens, others := answer(data(api.Data0, 7)), answer(hand(api.Ack))
		want = tell(x, nil, tokens, others)
		var absent *transactions.Line
		for _, w := range []transactions.Wire{nil, absent, &transactions.Line{}, transactions.NewLine()} {
			d := scripted(tokens, others)
			o, sent := transactions.Do(d, w, x)
			expect(t, tryText(x)+" over a wire without faults", (&story{o, sent, d.heard}).text(), want.text())
		}
	}
}

// TestP6_4OneByOne: the faults of a wire go on with the next transaction.
func TestP6_4OneByOne(t *testing.T) {
	w := transactions.NewLine(good, good, lost, lost, good, good, good, damaged, unnamed)
	d := scripted(answer(data(api.Data0, 7)), answer(hand(api.Ack)))
	in, out := transactions.Try{What: api.In, Max: 1}, transactions.Try{What: api.Out, Endp: 1, Toggle: true}
	for _, c := range []struct {
		x    transactions.Try
		want string
		left int
	}{
		{in, "done 7: >in 0.0, <data0 07, >ack!1", 6},
		{in, "none: >in 0.0!1", 5},
		{transactions.Try{What: api.In, Max: -1}, "zero: ", 5},
		{out, "none: >out 0.1, <data0 07, >data1, <ack!2", 1},
		{out, "none: >out 0.1!3, >data1", 0},
		{in, "done 7: >in 0.0, <data0 07, >ack, <ack", 0},
	} {
		o, sent := transactions.Do(d, w, c.x)
		expect(t, tryText(c.x), outcomeText(o)+": "+sentText(sent), c.want)
		if w.Left() != c.left {
			t.Errorf("%s: %d faults left; expected %d", tryText(c.x), w.Left(), c.left)
		}
	}
}
