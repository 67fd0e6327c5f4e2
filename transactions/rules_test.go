package transactions_test

import (
	"bytes"
	"slices"
	"strconv"
	"testing"

	"plugboard/api"
	"plugboard/packets"
	"plugboard/transactions"
)

// guarded is memory with more behind it, and what all of it was.
type guarded struct{ whole, was []byte }

// guard lays bytes into new memory.
func guard(b []byte) *guarded {
	whole := append(bytes.Clone(b), "behind it"...)
	return &guarded{whole, bytes.Clone(whole)}
}

// bytes returns the bytes, with spare capacity.
func (g *guarded) bytes() []byte { return g.whole[:len(g.whole)-len("behind it")] }

// stays reports whether nothing has changed.
func (g *guarded) stays() bool { return bytes.Equal(g.whole, g.was) }

// spoil overwrites the bytes of a slice, and what lies behind them.
func spoil(b []byte) {
	for i := range b[:cap(b)] {
		b[:cap(b)][i] ^= 0xff
	}
}

// rude is a device that spoils the memory of its last answer when it hears the
// next packet, and the memory of what it hears if it does not answer.
type rude struct {
	reply  func(p packets.Packet) []byte // the data of the answer, or nil for none
	memory []byte
}

// Hear answers with data.
func (d *rude) Hear(p packets.Packet) (packets.Packet, bool) {
	spoil(d.memory)
	d.memory = d.reply(p)
	if d.memory == nil {
		spoil(p.Data)
		return packets.Packet{}, false
	}
	return packets.Packet{Pid: api.Data0, Data: d.memory}, true
}

// TestR1ArgumentsStay: neither the data of a transaction nor that of a packet is
// changed, whatever the device does with what it hears.
func TestR1ArgumentsStay(t *testing.T) {
	for _, n := range []int{0, 1, 8, 1024, 1025} {
		for name, reply := range map[string]func(p packets.Packet) []byte{
			"nothing":  func(packets.Packet) []byte { return nil },
			"the same": func(p packets.Packet) []byte { return p.Data },
			"new":      func(packets.Packet) []byte { return mixed(5, 1) },
		} {
			for _, what := range []api.Pid{api.In, api.Out, api.Setup} {
				g := guard(mixed(n, 1))
				x := transactions.Try{What: what, Data: g.bytes()}
				transactions.Check(x)
				if transactions.Do(&rude{reply: reply}, nil, x); !g.stays() {
					t.Errorf("%s with %d bytes, answered with %s: the data changes", tryText(x), n, name)
				}
			}
			for _, p := range []packets.Packet{data(api.Data0), data(api.Data1), hand(api.Ack)} {
				g := guard(mixed(n, 1))
				p.Data = g.bytes()
				if transactions.Speak(&rude{reply: reply}, nil, p); !g.stays() {
					t.Errorf("Speak of %s, answered with %s: the data changes", short(shown(p)), name)
				}
				f := transactions.Func((&rude{reply: reply}).Hear)
				if f.Hear(p); !g.stays() {
					t.Errorf("Hear of %s, answered with %s: the data changes", short(shown(p)), name)
				}
			}
		}
	}
}

// TestR1Lists: a wire does not retain the list of its faults, nor change it or
// what lies behind it.
func TestR1Lists(t *testing.T) {
	l := []transactions.Fault{lost, damaged, lost, unnamed}
	x := transactions.NewLine(l[:3]...)
	l[0], l[1] = good, good
	expectLine(t, "a list that changes", x, []transactions.Fault{lost, damaged, lost})
	if !slices.Equal(l, []transactions.Fault{good, good, lost, unnamed}) {
		t.Errorf("the list of faults has become %v", l)
	}
}

// TestR1Replies: the memory of an answer is not changed, and what was returned
// does not change with it later.
func TestR1Replies(t *testing.T) {
	for _, iso := range either {
		g := guard(mixed(9, 4))
		d := &gadget{reply: func(packets.Packet) reply { return answer(packets.Packet{Pid: api.Data0, Data: g.bytes()}) }}
		o, sent := transactions.Do(d, nil, transactions.Try{What: api.In, Max: 9, Iso: iso})
		p, ok, more := transactions.Speak(d, nil, token(api.In, 0, 0))
		q, fine := transactions.Func(d.Hear).Hear(token(api.In, 0, 0))
		results := [][]byte{o.Data, p.Data, q.Data, sent[1].Packet.Data, more[1].Packet.Data}
		if !ok || !fine || !g.stays() {
			t.Error("the memory of an answer changes, or there is none")
		}
		for i, b := range results {
			for _, b := range results {
				if !bytes.Equal(b, mixed(9, 4)) {
					t.Errorf("the answer is %v", b)
				}
			}
			spoil(b)
			if !g.stays() {
				t.Errorf("result %d shares memory with an answer", i)
			}
			spoil(b)
		}
		spoil(g.whole)
		for i, b := range results {
			if !bytes.Equal(b, mixed(9, 4)) {
				t.Errorf("result %d changes with the memory of the device", i)
			}
		}
	}
}

// TestR1MemoryOfDevices: a device may use the memory of its answer again as soon
// as it hears the next packet, and what it heard is its own.
func TestR1MemoryOfDevices(t *testing.T) {
	d := &rude{reply: func(p packets.Packet) []byte {
		if p.Pid == api.In {
			return mixed(6, 2)
		}
		return nil
	}}
	o, sent := transactions.Do(d, nil, transactions.Try{What: api.In, Max: 6})
	if !bytes.Equal(o.Data, mixed(6, 2)) || !bytes.Equal(sent[1].Packet.Data, mixed(6, 2)) {
		t.Errorf("the data becomes %v and %v with the next packet", o.Data, sent[1].Packet.Data)
	}
	for _, reply := range []func(p packets.Packet) []byte{
		func(packets.Packet) []byte { return nil },
		func(p packets.Packet) []byte { return p.Data },
	} {
		d = &rude{reply: reply}
		_, sent = transactions.Do(d, nil, transactions.Try{What: api.Out, Data: mixed(6, 2)})
		spoil(d.memory)
		for _, s := range sent[1:] {
			if !bytes.Equal(s.Packet.Data, mixed(6, 2)) {
				t.Errorf("what was sent becomes %v in the hands of the device", s.Packet.Data)
			}
		}
	}
}

// slots returns all data of results, with a name for each.
func slots(p packets.Packet, o transactions.Outcome, sent []transactions.Sent) (l [][]byte, names []string) {
	l, names = [][]byte{p.Data, o.Data}, []string{"the answer", "the outcome"}
	for i, s := range sent {
		l, names = append(l, s.Packet.Data), append(names, "packet "+strconv.Itoa(i))
	}
	return l, names
}

// expectOwn checks that the capacity of each slice is its length, and that each
// has memory of its own.
func expectOwn(t *testing.T, name string, p packets.Packet, o transactions.Outcome, sent []transactions.Sent, others ...*guarded) {
	t.Helper()
	if cap(sent) != len(sent) {
		t.Errorf("%s: %d packets sent, capacity %d", name, len(sent), cap(sent))
	}
	l, names := slots(p, o, sent)
	for i, b := range l {
		if cap(b) != len(b) {
			t.Errorf("%s: %s has %d bytes, capacity %d", name, names[i], len(b), cap(b))
		}
	}
	for i, b := range l {
		want := make([][]byte, len(l))
		for j := range l {
			want[j] = bytes.Clone(l[j])
		}
		spoil(want[i][:len(b):len(b)])
		spoil(b)
		for j := range l {
			if !bytes.Equal(l[j], want[j]) {
				t.Errorf("%s: %s shares memory with %s", name, names[i], names[j])
			}
		}
	}
	for _, g := range others {
		if !g.stays() {
			t.Errorf("%s: a result shares memory with an argument", name)
		}
	}
}

// TestR4NewMemory: results share nothing with arguments, with what the device
// heard and answered, and with each other.
func TestR4NewMemory(t *testing.T) {
	for _, x := range samples() {
		for _, r := range replies() {
			mine, its := guard(x.Data), guard(r.packet.Data)
			x.Data = mine.bytes()
			r.packet.Data = its.bytes()
			var heard []*guarded
			d := &gadget{reply: func(p packets.Packet) reply {
				heard = append(heard, &guarded{p.Data, bytes.Clone(p.Data)})
				return r
			}}
			name := tryText(x) + ", answer " + short(shown(r.packet))
			o, sent := transactions.Do(d, nil, x)
			expectOwn(t, name, packets.Packet{}, o, sent, append(heard, mine, its)...)
			p, _, sent := transactions.Speak(d, nil, data(api.Data0, 1, 2))
			expectOwn(t, "Speak, answer "+short(shown(r.packet)), p, transactions.Outcome{}, sent, append(heard, its)...)
		}
	}
}

// TestR4Echoes: what a device answers with may be what it has heard.
func TestR4Echoes(t *testing.T) {
	echo := transactions.Func(func(p packets.Packet) (packets.Packet, bool) { return p, true })
	same := &gadget{reply: func(p packets.Packet) reply { return answer(p) }}
	for _, d := range []transactions.Device{echo, same} {
		g := guard(mixed(8, 3))
		x := transactions.Try{What: api.Out, Data: g.bytes()}
		o, sent := transactions.Do(d, nil, x)
		expectOwn(t, "an echo of Out", packets.Packet{}, o, sent, g)
		p, ok, sent := transactions.Speak(d, nil, packets.Packet{Pid: api.Data1, Data: g.bytes()})
		if !ok || !bytes.Equal(p.Data, g.was[:8]) {
			t.Errorf("an echo: %s, %t", shown(p), ok)
		}
		expectOwn(t, "an echo", p, transactions.Outcome{}, sent, g)
	}
	g := guard(mixed(8, 3))
	p, ok := echo.Hear(packets.Packet{Pid: api.Data1, Data: g.bytes()})
	if !ok || !bytes.Equal(p.Data, mixed(8, 3)) {
		t.Errorf("Hear: %s, %t", shown(p), ok)
	}
	expectOwn(t, "Hear", p, transactions.Outcome{}, nil, g)
}

// TestR3NilIsEmpty: nil and empty data are the same argument, and so are nil and
// empty lists of faults.
func TestR3NilIsEmpty(t *testing.T) {
	for _, x := range samples() {
		if len(x.Data) > 0 {
			continue
		}
		for _, b := range [][]byte{nil, {}, make([]byte, 0, 9)} {
			x.Data = b
			expectDo(t, x, nil, answer(packets.Packet{Pid: api.Data0, Data: b}), answer(hand(api.Ack)))
		}
	}
	for _, b := range [][]byte{nil, {}} {
		for _, pid := range []api.Pid{api.Data0, api.Data1, api.Ack, api.Setup} {
			expectSpeak(t, packets.Packet{Pid: pid, Data: b}, answer(packets.Packet{Pid: api.Data1, Data: b}), nil)
		}
		if e := transactions.Check(transactions.Try{What: api.Setup, Data: b}); e != api.ErrWidth {
			t.Errorf("Check of a Setup without data: %d", e)
		}
	}
	for _, l := range [][]transactions.Fault{nil, {}} {
		expectLine(t, "no faults", transactions.NewLine(l...), nil)
	}
}

// TestP1Repeated: the same arguments have the same results.
func TestP1Repeated(t *testing.T) {
	for _, x := range samples() {
		for _, r := range replies() {
			l := []transactions.Fault{good, good, lost}
			a, b := &story{}, &story{}
			for _, s := range []*story{a, b} {
				d := scripted(r, answer(hand(api.Nak)))
				s.outcome, s.sent = transactions.Do(d, transactions.NewLine(l...), x)
				s.heard = d.heard
			}
			if !a.equals(b) {
				t.Errorf("%s: %s, and then %s", tryText(x), short(a.text()), short(b.text()))
			}
		}
	}
}

// FuzzDo: any transaction, with any answers and any faults.
func FuzzDo(f *testing.F) {
	f.Add(uint8(0), uint8(0), uint8(9), uint8(0), 8, []byte{}, uint8(3), []byte{7}, uint8(2), []byte{}, []byte{})
	f.Add(uint8(1), uint8(2), uint8(1), uint8(1), 0, []byte{1}, uint8(10), []byte{}, uint8(2), []byte{}, []byte{0, 1})
	f.Add(uint8(3), uint8(0), uint8(13), uint8(0), 0, mixed(8, 1), uint8(0), []byte{}, uint8(14), []byte{}, []byte{0, 0, 2})
	f.Add(uint8(128), uint8(16), uint8(9), uint8(2), -1, []byte{}, uint8(11), mixed(1025, 1), uint8(2), []byte{1}, []byte{200})
	f.Fuzz(func(t *testing.T, addr, endp, what, flags uint8, most int, b []byte, first uint8, one []byte, second uint8, two []byte, wire []byte) {
		x := transactions.Try{Addr: addr, Endp: endp, What: api.Pid(what), Toggle: flags&1 != 0, Iso: flags&2 != 0, Max: most, Data: b}
		var l []transactions.Fault
		for _, n := range wire {
			l = append(l, transactions.Fault(n))
		}
		tokens, others := answer(data(api.Pid(first), one...)), answer(data(api.Pid(second), two...))
		e := transactions.Check(x)
		if e != errorOf(x) {
			t.Errorf("Check of %s: %d", tryText(x), e)
		}
		if e == api.OK {
			expectDo(t, x, l, tokens, others)
			return
		}
		if o, sent := transactions.Do(scripted(tokens, others), transactions.NewLine(l...), x); o.Result != 0 || o.Data != nil || sent != nil {
			t.Errorf("%s: %s, sent %s", tryText(x), outcomeText(o), short(sentText(sent)))
		}
	})
}
