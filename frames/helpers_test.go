package frames_test

import (
	"fmt"
	"math"
	"slices"
	"strings"
	"testing"

	"plugboard/api"
	"plugboard/frames"
	"plugboard/packets"
	"plugboard/transactions"
)

// The faults: those that have a name, and one that has none.
const (
	good    = transactions.Good
	lost    = transactions.Lost
	damaged = transactions.Damaged
	unnamed = transactions.Fault(200)
)

// anyFault are faults of each sort.
var anyFault = []transactions.Fault{good, lost, damaged, unnamed}

// either is both values.
var either = []bool{false, true}

// busSpeeds are the speeds of buses.
var busSpeeds = []api.Speed{api.Full, api.High}

// budgetOf returns the bit times of a tick, or of a frame.
func budgetOf(s api.Speed) int {
	if s == api.High {
		return 60000
	}
	return 12000
}

// stepOf returns the number of ticks that begin together.
func stepOf(s api.Speed) int {
	if s == api.High {
		return 1
	}
	return 8
}

// mixed returns n bytes that differ.
func mixed(n, from int) []byte {
	out := make([]byte, n)
	for i := range out {
		out[i] = byte(from + i*i*31 + i*7 + i>>8)
	}
	return out
}

// around returns numbers, those next to them, and the least and the greatest one, each
// once and ascending.
func around(l ...int) []int {
	out := []int{math.MinInt, math.MinInt + 1, math.MaxInt - 1, math.MaxInt}
	for _, n := range l {
		out = append(out, n-1, n, n+1)
	}
	slices.Sort(out)
	return slices.Compact(out)
}

// Packets.
func token(pid api.Pid, addr, endp uint8) packets.Packet {
	return packets.Packet{Pid: pid, Addr: addr, Endp: endp}
}
func data(pid api.Pid, b ...byte) packets.Packet { return packets.Packet{Pid: pid, Data: b} }
func hand(pid api.Pid) packets.Packet            { return packets.Packet{Pid: pid} }
func sof(frame uint16) packets.Packet            { return packets.Packet{Pid: api.Sof, Frame: frame} }

// Transactions.
func reads(max int) transactions.Try { return transactions.Try{What: api.In, Max: max} }
func writes(b ...byte) transactions.Try {
	return transactions.Try{What: api.Out, Data: b}
}
func sets(b ...byte) transactions.Try { return transactions.Try{What: api.Setup, Data: b} }
func readsIso(max int) transactions.Try {
	return transactions.Try{What: api.In, Iso: true, Max: max}
}
func writesIso(b ...byte) transactions.Try {
	return transactions.Try{What: api.Out, Iso: true, Data: b}
}

// samples are transactions without an error, of each kind, with the numbers of bytes
// at their edges.
func samples() []transactions.Try {
	out := []transactions.Try{
		sets(mixed(8, 1)...),
		{What: api.In, Addr: 127, Endp: 15, Toggle: true, Max: 8},
		{What: api.Out, Addr: 1, Endp: 2, Toggle: true, Data: mixed(3, 2)},
		{What: api.In, Data: []byte{}},
	}
	for i, n := range []int{0, 1, 2, 63, 64, 1023, 1024} {
		out = append(out, reads(n), readsIso(n), writes(mixed(n, i)...), writesIso(mixed(n, i)...))
	}
	return out
}

// wrong are transactions of each error.
func wrong() []transactions.Try {
	return []transactions.Try{
		{},
		{What: api.In, Addr: 128, Max: 8}, {What: api.Out, Endp: 16}, {What: api.Sof}, {What: api.Ack}, {What: 255},
		reads(-1), reads(1025), reads(math.MinInt), reads(math.MaxInt), readsIso(1025),
		{What: api.In, Max: 8, Data: []byte{1}}, {What: api.Out, Max: 1}, {What: api.Out, Max: math.MinInt},
		{What: api.In, Max: 8, Toggle: true, Iso: true}, {What: api.Out, Toggle: true, Iso: true},
		{What: api.Setup, Toggle: true, Data: mixed(8, 1)}, {What: api.Setup, Iso: true, Data: mixed(8, 1)},
		sets(), sets(mixed(7, 1)...), sets(mixed(9, 1)...), sets(mixed(1025, 1)...),
		writes(mixed(1025, 1)...), writesIso(mixed(1025, 1)...),
	}
}

// reply is what a device returns.
type reply struct {
	packet packets.Packet
	ok     bool
}

// answer returns a reply with a packet.
func answer(p packets.Packet) reply { return reply{p, true} }

// silent is no answer.
var silent = reply{}

// replies are answers of each identifier, answers with an error, and none.
func replies() []reply {
	return []reply{
		silent, {hand(api.Ack), false},
		answer(hand(api.Ack)), answer(hand(api.Nak)), answer(hand(api.Stall)), answer(hand(api.Nyet)),
		answer(data(api.Data0)), answer(data(api.Data1)), answer(data(api.Data0, 7)), answer(data(api.Data1, 7, 8)),
		answer(data(api.Data0, mixed(1024, 3)...)), answer(token(api.In, 0, 0)), answer(sof(2047)),
		answer(packets.Packet{Pid: api.Split, Split: packets.Split{Hub: 1, Port: 2, Kind: api.Bulk}}),
		answer(packets.Packet{}), answer(hand(255)), answer(data(api.Ack, 7)), answer(data(api.Data0, mixed(1025, 3)...)), answer(sof(2048)),
	}
}

// gadget is a device that notes what it hears.
type gadget struct {
	heard []packets.Packet
	reply func(p packets.Packet) reply
}

// Hear notes a packet, and answers it.
func (g *gadget) Hear(p packets.Packet) (packets.Packet, bool) {
	g.heard = append(g.heard, p)
	r := g.reply(p)
	return r.packet, r.ok
}

// replying returns a gadget with one reply to all packets but a Sof, and one to that.
func replying(r, toSof reply) *gadget {
	return &gadget{reply: func(p packets.Packet) reply {
		if p.Pid == api.Sof {
			return toSof
		}
		return r
	}}
}

// friendly returns a gadget that answers tokens of In with a number that it counts, and
// data with Ack. It does not answer a Sof.
func friendly() *gadget {
	count := byte(0)
	return &gadget{reply: func(p packets.Packet) reply {
		switch p.Pid {
		case api.In:
			count++
			return answer(data(api.Data0, count))
		case api.Data0, api.Data1:
			return answer(hand(api.Ack))
		}
		return silent
	}}
}

// meter is a wire that counts how many faults were asked for.
type meter struct {
	faults []transactions.Fault
	asked  int
}

// Next returns the next fault, and Good behind the last one.
func (m *meter) Next() transactions.Fault {
	m.asked++
	if m.asked > len(m.faults) {
		return good
	}
	return m.faults[m.asked-1]
}

// newBus returns a bus.
func newBus(t *testing.T, s api.Speed, d transactions.Device, w transactions.Wire) *frames.Bus {
	t.Helper()
	b, e := frames.New(s, d, w)
	if b == nil || e != api.OK {
		t.Fatalf("New with the speed %d: error %d", s, e)
	}
	return b
}

// shown returns a packet as a text, also one with an error.
func shown(p packets.Packet) string {
	if text := packets.Text(p); text != "" {
		return text
	}
	return fmt.Sprintf("invalid %+v", p)
}

// heardText returns packets as a text.
func heardText(l []packets.Packet) string {
	words := make([]string, len(l))
	for i, p := range l {
		words[i] = shown(p)
	}
	return strings.Join(words, ", ")
}

// sentText returns what was sent as a text: a sign for the sender (> for the host), the
// packet, and its fault, if that is not Good.
func sentText(l []transactions.Sent) string {
	words := make([]string, len(l))
	for i, s := range l {
		words[i] = "<" + shown(s.Packet)
		if s.Host {
			words[i] = ">" + shown(s.Packet)
		}
		if s.Fault != good {
			words[i] += fmt.Sprint("!", s.Fault)
		}
	}
	return strings.Join(words, ", ")
}

// resultText returns the results of Frame as a text.
func resultText(l []transactions.Outcome, sum int) string { return fmt.Sprintf("%v; %d", l, sum) }

// tryText returns a transaction as a text.
func tryText(x transactions.Try) string {
	return fmt.Sprintf("%d to %d.%d, toggle %t, iso %t, max %d, %d bytes", x.What, x.Addr, x.Endp, x.Toggle, x.Iso, x.Max, len(x.Data))
}

// short returns the beginning of a text, for messages.
func short(text string) string {
	if len(text) > 400 {
		return text[:400] + " .."
	}
	return text
}

// expect compares two texts.
func expect(t *testing.T, name, got, want string) {
	t.Helper()
	if got != want {
		t.Errorf("%s: %s; expected %s", name, short(got), short(want))
	}
}

// expectFrame performs a frame, and compares its results.
func expectFrame(t *testing.T, b *frames.Bus, l []transactions.Try, budget int, want string) {
	t.Helper()
	expect(t, fmt.Sprintf("Frame of %d transactions, budget %d", len(l), budget), resultText(b.Frame(l, budget)), want)
}

// expectState compares what a bus tells of itself.
func expectState(t *testing.T, name string, b *frames.Bus, ticks int, number uint16, trace string) {
	t.Helper()
	want := fmt.Sprintf("ticks %d, number %d, %s", ticks, number, trace)
	expect(t, name, stateText(b), want)
}

// stateText returns what a bus tells of itself as a text.
func stateText(b *frames.Bus) string {
	return fmt.Sprintf("ticks %d, number %d, %s", b.Ticks(), b.Number(), sentText(b.Trace()))
}

// pass lets frames without transactions pass, up to a number of ticks.
func pass(b *frames.Bus, ticks int) {
	for b.Ticks() < ticks {
		b.Frame(nil, 0)
	}
}
