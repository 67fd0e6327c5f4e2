package transactions_test

import (
	"slices"
	"strconv"
	"strings"
	"testing"

	"plugboard/api"
	"plugboard/packets"
	"plugboard/transactions"
)

// The faults: those that have a name, and some that have none.
const (
	good    = transactions.Good
	lost    = transactions.Lost
	damaged = transactions.Damaged
	unnamed = transactions.Fault(3)
	highest = transactions.Fault(255)
)

// anyFault are faults of each sort.
var anyFault = []transactions.Fault{good, lost, damaged, unnamed, highest}

// either is both toggles.
var either = []bool{false, true}

// Packets of each form.
func token(pid api.Pid, addr, endp uint8) packets.Packet {
	return packets.Packet{Pid: pid, Addr: addr, Endp: endp}
}
func data(pid api.Pid, b ...byte) packets.Packet { return packets.Packet{Pid: pid, Data: b} }
func hand(pid api.Pid) packets.Packet            { return packets.Packet{Pid: pid} }

// mixed returns n bytes that differ.
func mixed(n, from int) []byte {
	out := make([]byte, n)
	for i := range out {
		out[i] = byte(from + i*i*31 + i*7)
	}
	return out
}

// reply is what a device returns.
type reply struct {
	packet packets.Packet
	ok     bool
}

// silent is no answer.
var silent = reply{}

// answer returns a reply with a packet.
func answer(p packets.Packet) reply { return reply{p, true} }

// goodReplies are answers of all identifiers, without an error.
func goodReplies() []reply {
	return []reply{
		answer(hand(api.Ack)), answer(hand(api.Nak)), answer(hand(api.Stall)), answer(hand(api.Nyet)),
		answer(data(api.Data0)), answer(data(api.Data1)), answer(data(api.Data0, 7)), answer(data(api.Data1, 7)),
		answer(data(api.Data0, mixed(8, 1)...)), answer(data(api.Data1, mixed(9, 2)...)),
		answer(data(api.Data0, mixed(1024, 3)...)), answer(data(api.Data1, mixed(1024, 4)...)),
		answer(token(api.In, 0, 0)), answer(token(api.Out, 127, 15)), answer(token(api.Setup, 1, 2)),
		answer(packets.Packet{Pid: api.Sof, Frame: 5}),
		answer(packets.Packet{Pid: api.Split, Split: packets.Split{Hub: 1, Port: 2, Kind: api.Bulk}}),
	}
}

// badReplies are no answers, and answers with an error.
func badReplies() []reply {
	return []reply{
		silent, {hand(api.Ack), false}, {data(api.Data0, 7), false},
		answer(packets.Packet{}), answer(hand(4)), answer(hand(255)), answer(packets.Packet{Pid: 0, Data: []byte{7}}),
		answer(data(api.Data0, mixed(1025, 5)...)), answer(data(api.Data1, mixed(1025, 6)...)),
		answer(data(api.Ack, 7)), answer(token(api.Ack, 1, 0)), answer(token(api.Nak, 0, 1)),
		answer(packets.Packet{Pid: api.Stall, Frame: 1}), answer(packets.Packet{Pid: api.Data0, Addr: 1, Data: []byte{7}}),
		answer(token(api.In, 128, 0)),
	}
}

// replies are replies of every sort.
func replies() []reply { return append(goodReplies(), badReplies()...) }

// gadget is a device that notes what it hears.
type gadget struct {
	heard []packets.Packet
	reply func(p packets.Packet) reply
}

// Hear notes a packet, and answers it.
func (g *gadget) Hear(p packets.Packet) (packets.Packet, bool) {
	g.heard = append(g.heard, p)
	r := g.reply(p)
	return r.packet, r.ok
}

// scripted returns a gadget with one reply to tokens, and another one to all
// other packets.
func scripted(tokens, others reply) *gadget {
	return &gadget{reply: func(p packets.Packet) reply {
		switch p.Pid {
		case api.In, api.Out, api.Setup:
			return tokens
		}
		return others
	}}
}

// meter is a wire that counts how many faults were asked for.
type meter struct {
	faults []transactions.Fault
	asked  int
}

// Next returns the next fault, and Good behind the last one.
func (m *meter) Next() transactions.Fault {
	m.asked++
	if m.asked > len(m.faults) {
		return good
	}
	return m.faults[m.asked-1]
}

// shown returns a packet as a text, also one with an error.
func shown(p packets.Packet) string {
	if text := packets.Text(p); text != "" {
		return text
	}
	return "invalid " + strconv.Itoa(int(p.Pid)) + " " + strconv.Itoa(int(p.Addr)) + "." + strconv.Itoa(int(p.Endp)) + " with " + strconv.Itoa(len(p.Data)) + " bytes"
}

// heardText returns packets as a text.
func heardText(l []packets.Packet) string {
	words := make([]string, len(l))
	for i, p := range l {
		words[i] = shown(p)
	}
	return strings.Join(words, ", ")
}

// sentText returns what was sent as a text: a sign for the sender (> for the
// host), the packet, and its fault, if that is not Good.
func sentText(l []transactions.Sent) string {
	words := make([]string, len(l))
	for i, s := range l {
		words[i] = "<" + shown(s.Packet)
		if s.Host {
			words[i] = ">" + shown(s.Packet)
		}
		if s.Fault != good {
			words[i] += "!" + strconv.Itoa(int(s.Fault))
		}
	}
	return strings.Join(words, ", ")
}

// outcomeText returns an outcome as a text.
func outcomeText(o transactions.Outcome) string {
	names := []string{"zero", "done", "nak", "stall", "none", "babble", "again"}
	out := strconv.Itoa(int(o.Result))
	if int(o.Result) < len(names) {
		out = names[o.Result]
	}
	for _, b := range o.Data {
		out += " " + strconv.Itoa(int(b))
	}
	return out
}

// faultsText returns faults as a text.
func faultsText(l []transactions.Fault) string {
	words := make([]string, len(l))
	for i, f := range l {
		words[i] = strconv.Itoa(int(f))
	}
	return "faults [" + strings.Join(words, " ") + "]"
}

// tryText returns a transaction as a text.
func tryText(t transactions.Try) string {
	flag := func(name string, set bool) string {
		if set {
			return " " + name
		}
		return ""
	}
	return strconv.Itoa(int(t.What)) + " to " + strconv.Itoa(int(t.Addr)) + "." + strconv.Itoa(int(t.Endp)) +
		flag("toggle", t.Toggle) + flag("iso", t.Iso) + " max " + strconv.Itoa(t.Max) + " with " + strconv.Itoa(len(t.Data)) + " bytes"
}

// short returns the beginning of a text, for messages.
func short(text string) string {
	if len(text) > 200 {
		return text[:200] + " .."
	}
	return text
}

// expect compares two texts.
func expect(t *testing.T, name, got, want string) {
	t.Helper()
	if got != want {
		t.Errorf("%s: %s; expected %s", name, short(got), short(want))
	}
}

// samples are transactions without an error, of each kind, with the greatest
// lengths at their edges.
func samples() []transactions.Try {
	out := []transactions.Try{{What: api.Setup, Addr: 3, Data: mixed(8, 7)}}
	for _, flags := range [][2]bool{{false, false}, {true, false}, {false, true}} {
		for _, n := range []int{0, 1, 7, 8, 9, 1023, 1024} {
			out = append(out, transactions.Try{What: api.In, Addr: 127, Endp: 15, Toggle: flags[0], Iso: flags[1], Max: n})
		}
		for _, n := range []int{0, 1, 8, 1024} {
			out = append(out, transactions.Try{What: api.Out, Addr: 1, Endp: 2, Toggle: flags[0], Iso: flags[1], Data: mixed(n, 9)})
		}
	}
	return out
}

// eachFaults calls f with all lists of up to n of these faults.
func eachFaults(n int, faults []transactions.Fault, f func([]transactions.Fault)) {
	var extend func(l []transactions.Fault)
	extend = func(l []transactions.Fault) {
		f(l)
		if len(l) == n {
			return
		}
		for _, next := range faults {
			extend(append(slices.Clone(l), next))
		}
	}
	extend(nil)
}
