package toggles_test

import (
	"bytes"
	"slices"
	"testing"

	"plugboard/api"
	"plugboard/toggles"
)

// guarded are packets with more memory behind each, and more packets behind all,
// and what all of that memory was.
type guarded struct {
	memory [][]byte // the memory of each packet
	was    [][]byte
	list   [][]byte // the memory of the list
	heads  [][]byte // the list as it was
}

// guard lays packets into new memory.
func guard(packets [][]byte) *guarded {
	g := &guarded{}
	for _, b := range append(slices.Clone(packets), []byte("behind"), []byte("all")) {
		whole := append(bytes.Clone(b), "behind it"...)
		g.memory = append(g.memory, whole)
		g.was = append(g.was, bytes.Clone(whole))
		g.list = append(g.list, whole[:len(b)])
	}
	g.heads = slices.Clone(g.list)
	return g
}

// packets returns the packets, with spare capacity.
func (g *guarded) packets() [][]byte { return g.list[:len(g.list)-2] }

// stays reports whether no memory has changed.
func (g *guarded) stays() bool {
	for i, b := range g.list {
		if len(b) != len(g.heads[i]) || cap(b) != cap(g.heads[i]) || &b[:1][0] != &g.memory[i][0] {
			return false
		}
	}
	return same(g.memory, g.was)
}

// result is what a function returns.
type result struct {
	lists  [][][]byte
	packet []byte
}

// calls are all functions, with two lists of packets as arguments, of which some
// take only one.
func calls() map[string]func(left, got [][]byte) result {
	out := map[string]func(left, got [][]byte) result{
		"New": func(left, _ [][]byte) result {
			s, _ := toggles.New(left...)
			return result{lists: [][][]byte{s.Left}}
		},
	}
	for name, toggle := range map[string]bool{"": false, " (set)": true} {
		out["Offer"+name] = func(left, _ [][]byte) result {
			b, _, _ := toggles.Offer(toggles.Sender{Toggle: toggle, Left: left})
			return result{packet: b}
		}
		out["Acknowledge"+name] = func(left, _ [][]byte) result {
			s, _ := toggles.Acknowledge(toggles.Sender{Toggle: toggle, Left: left})
			return result{lists: [][][]byte{s.Left}}
		}
		out["Hear"+name] = func(left, got [][]byte) result {
			r, _ := toggles.Hear(toggles.Receiver{Got: got}, toggle, slices.Concat(left, [][]byte{nil})[0])
			return result{lists: [][][]byte{r.Got}}
		}
		out["Clear"+name] = func(left, got [][]byte) result {
			s, r := toggles.Clear(toggles.Sender{Toggle: toggle, Left: left}, toggles.Receiver{Got: got})
			return result{lists: [][][]byte{s.Left, r.Got}}
		}
		for _, l := range [][]toggles.Exchange{nil, {good}, {noAck}, {noData}, {good, noAck, noneOf}, {good, good, good, good, good, good}} {
			out["Run"+name+losses(l)] = func(left, got [][]byte) result {
				s, r := toggles.Run(toggles.Sender{Left: left}, toggles.Receiver{Toggle: toggle, Got: got}, l...)
				return result{lists: [][][]byte{s.Left, r.Got}}
			}
		}
	}
	return out
}

// sampleLists are packets of arguments.
func sampleLists() [][][]byte {
	return [][][]byte{nil, {nil}, {one(8)}, numbered(4), {nil, one(1), nil, one(2)}, {mixed(1024, 1), mixed(3, 2)}, {mixed(1025, 1), one(1)}}
}

// TestR1ArgumentsStay: no function changes its arguments, the memory behind
// them, or the packets behind those of a list.
func TestR1ArgumentsStay(t *testing.T) {
	for name, call := range calls() {
		for _, left := range sampleLists() {
			for _, got := range sampleLists() {
				a, b := guard(left), guard(got)
				if call(a.packets(), b.packets()); !a.stays() || !b.stays() {
					t.Errorf("%s changes %s or %s", name, brief(left), brief(got))
				}
			}
		}
	}
}

// TestR1ExchangesStay: Run does not change its exchanges.
func TestR1ExchangesStay(t *testing.T) {
	l := slices.Repeat(anything, 3)
	toggles.Run(mustNew(t, numbered(9)...), toggles.Receiver{}, l[:8]...)
	if !slices.Equal(l, slices.Repeat(anything, 3)) {
		t.Errorf("Run changes its exchanges to %s", losses(l))
	}
}

// TestR3NilIsEmpty: nil lists, packets and exchanges are the same as empty ones.
func TestR3NilIsEmpty(t *testing.T) {
	for name, call := range calls() {
		for _, got := range sampleLists() {
			for _, c := range [][2][][]byte{{nil, {}}, {{nil}, {{}}}, {{one(1), nil, one(2)}, {one(1), {}, one(2)}}} {
				expectSame(t, name, call(c[0], got), call(c[1], got))
				expectSame(t, name, call(got, c[0]), call(got, c[1]))
			}
		}
	}
	var none []toggles.Exchange
	s, r := toggles.Run(toggles.Sender{Left: numbered(2)}, toggles.Receiver{}, none...)
	expectSender(t, "no exchanges", s, false, numbered(2))
	expectReceiver(t, "no exchanges", r, false, nil)
}

// expectSame checks that two results are equal.
func expectSame(t *testing.T, name string, a, b result) {
	t.Helper()
	if !bytes.Equal(a.packet, b.packet) || !slices.EqualFunc(a.lists, b.lists, same) {
		t.Errorf("%s differs: %v, %v; %v, %v", name, a.lists, a.packet, b.lists, b.packet)
	}
}

// TestR4Capacities: the capacity of each slice of a result is its length.
func TestR4Capacities(t *testing.T) {
	for name, call := range calls() {
		for _, left := range sampleLists() {
			for _, got := range sampleLists() {
				x := call(guard(left).packets(), guard(got).packets())
				if cap(x.packet) != len(x.packet) {
					t.Errorf("%s: a packet of %d bytes, capacity %d", name, len(x.packet), cap(x.packet))
				}
				for _, l := range x.lists {
					if cap(l) != len(l) {
						t.Errorf("%s: a list of %d packets, capacity %d", name, len(l), cap(l))
					}
					for _, b := range l {
						if cap(b) != len(b) {
							t.Errorf("%s: a packet of %d bytes in a list, capacity %d", name, len(b), cap(b))
						}
					}
				}
			}
		}
	}
}

// slots returns all packets of a result.
func (x result) slots() [][]byte {
	return append(slices.Concat(x.lists...), x.packet)
}

// clone returns packets in new memory.
func clone(l [][]byte) [][]byte {
	out := make([][]byte, len(l))
	for i, b := range l {
		out[i] = bytes.Clone(b)
	}
	return out
}

// expectAlone overwrites each packet of a result, one after the other, and checks
// that no other one, and no argument, changes with it.
func expectAlone(t *testing.T, name string, x, again result, arguments ...*guarded) {
	t.Helper()
	other := clone(again.slots())
	want := clone(x.slots())
	for i, b := range x.slots() {
		for j := range b {
			b[j] ^= 0xff
			want[i][j] ^= 0xff
		}
		if !same(x.slots(), want) {
			t.Errorf("%s: packet %d shares memory with another one", name, i)
		}
	}
	for _, l := range x.lists {
		for i := range l {
			l[i] = []byte("another")
		}
	}
	if !same(again.slots(), other) {
		t.Errorf("%s: two results share memory", name)
	}
	for _, g := range arguments {
		if !g.stays() {
			t.Errorf("%s: a result shares memory with an argument", name)
		}
	}
}

// TestR4NewMemory: no packet of a result shares memory with an argument, with
// another packet of the result, or with another result.
func TestR4NewMemory(t *testing.T) {
	for name, call := range calls() {
		for _, left := range sampleLists() {
			for _, got := range sampleLists() {
				a, b := guard(left), guard(got)
				expectAlone(t, name, call(a.packets(), b.packets()), call(a.packets(), b.packets()), a, b)
			}
		}
	}
}

// TestR4SharedArguments: also packets that share memory among the arguments share
// none in the results.
func TestR4SharedArguments(t *testing.T) {
	for name, call := range calls() {
		g := guard([][]byte{mixed(6, 1)})
		b := g.packets()[0]
		l := [][]byte{b, b, b[:3], b[2:]}
		expectAlone(t, name, call(l, l), call(l, l), g)
		if !same(l, [][]byte{b, b, b[:3], b[2:]}) {
			t.Errorf("%s: a result shares its list with an argument", name)
		}
	}
}

// TestR4LostAck: a packet that is left and was taken is in memory of its own in
// both.
func TestR4LostAck(t *testing.T) {
	s, r := toggles.Run(mustNew(t, numbered(2)...), toggles.Receiver{}, noAck)
	s.Left[0][0] = 99
	expectReceiver(t, "lost acknowledgement", r, true, numbered(1))
	r.Got[0][0] = 98
	expectSender(t, "lost acknowledgement", s, false, [][]byte{one(99), one(2)})
}

// TestR1NotRetained: what changes in an argument behind a call does not change
// the result.
func TestR1NotRetained(t *testing.T) {
	for name, call := range calls() {
		left, got := numbered(4), numbered(4)
		x := call(left, got)
		want := clone(x.slots())
		for _, l := range [][][]byte{left, got} {
			for i := range l {
				l[i][0] = 77
				l[i] = nil
			}
		}
		if !same(x.slots(), want) {
			t.Errorf("%s retains an argument", name)
		}
	}
}

// FuzzRun: any packets, and any exchanges.
func FuzzRun(f *testing.F) {
	f.Add([]byte{}, []byte{}, false, false, 0)
	f.Add([]byte{1, 2, 3}, []byte{0, 1, 2, 0}, false, false, 0)
	f.Add([]byte{1, 0, 1, 200}, []byte{1, 1, 0, 3, 0}, true, false, 2)
	f.Fuzz(func(t *testing.T, sizes, exchanges []byte, sends, hears bool, taken int) {
		var packets [][]byte
		for i, n := range sizes {
			packets = append(packets, mixed(int(n), i))
		}
		var l []toggles.Exchange
		for _, e := range exchanges {
			l = append(l, anything[e%4])
		}
		expectRun(t, toggles.Sender{Toggle: sends, Left: packets}, toggles.Receiver{Toggle: hears, Got: packets[:uint(taken)%uint(len(packets)+1)]}, l)
		s, e := toggles.New(packets...)
		if (e == api.OK) != (len(packets) <= toggles.MaxLeft) {
			t.Errorf("New of %d packets: error %d", len(packets), e)
		}
		if e == api.OK {
			s, r := toggles.Run(s, toggles.Receiver{}, l...)
			expectRest(t, s, r, packets)
		}
	})
}
