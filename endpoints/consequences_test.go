package endpoints_test

import (
	"bytes"
	"math/rand"
	"slices"
	"strconv"
	"strings"
	"testing"

	"plugboard/api"
	"plugboard/endpoints"
	"plugboard/packets"
	"plugboard/transactions"
)

// The faults.
const (
	good = transactions.Good
	lost = transactions.Lost
)

// anyFault are faults of each sort; the last one has no name.
var anyFault = []transactions.Fault{good, lost, transactions.Damaged, 3}

// eachFaults calls f with all lists of up to n of these faults.
func eachFaults(n int, faults []transactions.Fault, f func([]transactions.Fault)) {
	var extend func(l []transactions.Fault)
	extend = func(l []transactions.Fault) {
		f(l)
		if len(l) == n {
			return
		}
		for _, next := range faults {
			extend(append(slices.Clone(l), next))
		}
	}
	extend(nil)
}

// faultsText returns faults as a text.
func faultsText(l []transactions.Fault) string {
	words := make([]string, len(l))
	for i, f := range l {
		words[i] = strconv.Itoa(int(f))
	}
	return "faults [" + strings.Join(words, " ") + "]"
}

// link is an endpoint of a device with the host that reads or writes it. It
// carries the packets of its list.
type link struct {
	set    *endpoints.Set
	end    *endpoints.Endpoint
	list   [][]byte
	toggle bool // of the host
	// In: how many packets were offered, and what the host has read. Out: how many
	// writes were Done, and what the device has taken.
	n   int
	got [][]byte
}

// newLink returns a link with an endpoint of its own in a set of its own.
func newLink(t *testing.T, c endpoints.Config, list [][]byte) *link {
	e := made(t, c)
	return &link{set: setOf(t, e), end: e, list: list}
}

// step lets the host perform a transaction with the endpoint.
func (l *link) step(w transactions.Wire) transactions.Result {
	if l.end.Config().In {
		return l.read(w)
	}
	return l.write(w)
}

// read offers what there is room for, and reads.
func (l *link) read(w transactions.Wire) transactions.Result {
	for l.n < len(l.list) && l.end.Offer(l.list[l.n]) == api.OK {
		l.n++
	}
	o, _ := transactions.Do(l.set, w, transactions.Try{Addr: 5, Endp: l.end.Config().Number, What: api.In, Toggle: l.toggle, Max: l.end.Config().Max})
	if o.Result == transactions.Done {
		l.got = append(l.got, o.Data)
		l.toggle = !l.toggle
	}
	return o.Result
}

// write writes the next packet, if there is one.
func (l *link) write(w transactions.Wire) transactions.Result {
	if l.n == len(l.list) {
		return 0
	}
	o, _ := transactions.Do(l.set, w, transactions.Try{Addr: 5, Endp: l.end.Config().Number, What: api.Out, Toggle: l.toggle, Data: l.list[l.n]})
	if o.Result == transactions.Done {
		l.n++
		l.toggle = !l.toggle
	}
	l.got = append(l.got, l.end.Taken()...)
	return o.Result
}

// clear clears the endpoint, and resets the toggle of the host.
func (l *link) clear() {
	l.end.Clear()
	l.toggle = false
}

// carried returns how many packets the sending side has left behind.
func (l *link) carried() int {
	if l.end.Config().In {
		return l.n - l.end.Waiting()
	}
	return l.n
}

// expectOrder checks that what was read or taken are the first packets of the
// list, of which no more than this many come again at once, and that the sender
// is at most one packet behind.
func (l *link) expectOrder(t *testing.T, name string, repeated int) {
	t.Helper()
	next := 0
	for i, b := range l.got {
		switch {
		case next < len(l.list) && bytes.Equal(b, l.list[next]):
			next++
		case repeated > 0 && i > 0 && bytes.Equal(b, l.got[i-1]):
			repeated--
		default:
			t.Fatalf("%s: %s of %s", name, listText(l.got), listText(l.list))
		}
	}
	if n := l.carried(); next != n && next != n+1 {
		t.Fatalf("%s: %d packets have arrived, and %d are left behind by the sender", name, next, n)
	}
}

// packetLists are lists of packets that differ, that are equal, and that are empty.
func packetLists() [][][]byte {
	return [][][]byte{{{1}, {2}, {3}, {4}}, {{1}, {1}, {1}}, {{}, {}, {}, {}}, {{1, 2}, {}, {1, 2}, {1, 2}, {3}}, {{9}}, {}}
}

// eachConfig calls f with endpoints of each direction, and of each kind with
// handshakes.
func eachConfig(f func(c endpoints.Config)) {
	for _, in := range either {
		for _, kind := range handshaking {
			f(endpoints.Config{Number: 1, In: in, Kind: kind, Max: 2})
		}
	}
}

// TestP7_7AllFaults: packets are read and written, with all lists of faults;
// behind them all packets arrive, and so do all of the list.
func TestP7_7AllFaults(t *testing.T) {
	check := func(c endpoints.Config, list [][]byte, faults []transactions.Fault) {
		l, w := newLink(t, c, list), transactions.NewLine(faults...)
		l.end.Room(endpoints.MaxRoom)
		for range 16 {
			l.step(w)
			l.expectOrder(t, faultsText(faults), 0)
		}
		if l.carried() != len(list) || len(l.got) != len(list) {
			t.Fatalf("%+v: %s of %s arrive behind %s", c, listText(l.got), listText(list), faultsText(faults))
		}
	}
	eachConfig(func(c endpoints.Config) {
		for _, list := range packetLists() {
			eachFaults(9, []transactions.Fault{good, lost}, func(faults []transactions.Fault) { check(c, list, faults) })
			eachFaults(4, anyFault, func(faults []transactions.Fault) { check(c, list, faults) })
		}
	})
}

// TestP7_7Clear: with Clear at each place, and the toggle of the host reset, at
// most one packet comes twice, and none is lost.
func TestP7_7Clear(t *testing.T) {
	repeated := map[bool]int{}
	eachConfig(func(c endpoints.Config) {
		eachFaults(9, []transactions.Fault{good, lost}, func(faults []transactions.Fault) {
			for place := range 5 {
				l, w := newLink(t, c, [][]byte{{1}, {2}, {3}, {4}}), transactions.NewLine(faults...)
				l.end.Room(endpoints.MaxRoom)
				for step := range 14 {
					if step == place {
						l.clear()
					}
					l.step(w)
					l.expectOrder(t, "Clear in front of step "+strconv.Itoa(place)+", "+faultsText(faults), 1)
				}
				if l.carried() != 4 {
					t.Fatalf("Clear in front of step %d: %d packets arrive behind %s", place, l.carried(), faultsText(faults))
				}
				if len(l.got) == 5 {
					repeated[c.In]++
				}
			}
		})
	})
	// Otherwise the runs would not show what this test is about.
	if repeated[true] == 0 || repeated[false] == 0 {
		t.Error("no packet comes twice")
	}
}

// TestP7_7Room: a host that writes is refused without room, and goes on when
// there is room again.
func TestP7_7Room(t *testing.T) {
	for _, kind := range handshaking {
		eachFaults(8, []transactions.Fault{good, lost}, func(faults []transactions.Fault) {
			l, w := newLink(t, endpoints.Config{Number: 1, Kind: kind, Max: 2}, packetLists()[0]), transactions.NewLine(faults...)
			refused := 0
			for step := range 24 {
				l.end.Room(step / 2 % 2)
				if l.step(w) == transactions.Nak {
					refused++
				}
				l.expectOrder(t, faultsText(faults), 0)
			}
			if len(l.got) != 4 || refused == 0 {
				t.Fatalf("%s are taken, %d refused, behind %s", listText(l.got), refused, faultsText(faults))
			}
		})
	}
}

// chance is a wire that loses packets at random.
type chance struct {
	source *rand.Rand
	good   int // of 10 packets
}

// Next returns a fault.
func (c *chance) Next() transactions.Fault {
	if c.source.Intn(10) < c.good {
		return good
	}
	return transactions.Fault(1 + c.source.Intn(255))
}

// TestP7_7LongRuns: hosts read and write the endpoints of one set in turn, over
// wires that lose many packets, with endpoints that are halted, cleared and
// without room now and then.
func TestP7_7LongRuns(t *testing.T) {
	source := rand.New(rand.NewSource(77))
	for round := range 60 {
		var links []*link
		var ends []*endpoints.Endpoint
		for number := range uint8(3) {
			for _, in := range either {
				l := newLink(t, endpoints.Config{Number: number + 1, In: in, Kind: handshaking[source.Intn(2)], Max: 8}, numbered(50))
				links, ends = append(links, l), append(ends, l.end)
			}
		}
		s := setOf(t, ends...)
		clears := make([]int, len(links))
		w := &chance{source: source, good: 4 + round%7}
		for range 2000 {
			i := source.Intn(len(links))
			l := links[i]
			l.set = s
			switch source.Intn(40) {
			case 0:
				l.end.Halt()
			case 1, 2:
				l.clear()
				clears[i]++
			case 3, 4, 5:
				l.end.Room(source.Intn(4))
			}
			l.step(w)
			l.expectOrder(t, "round "+strconv.Itoa(round), clears[i])
		}
	}
}

// numbered returns n packets that differ.
func numbered(n int) [][]byte {
	out := make([][]byte, n)
	for i := range out {
		out[i] = append([]byte{byte(i)}, mixed(i%8, i)...)
	}
	return out
}

// TestP7_7Isochronous: each packet is read, or taken, at most once, and in order,
// whatever is lost; behind the faults all arrive.
func TestP7_7Isochronous(t *testing.T) {
	eachFaults(8, []transactions.Fault{good, lost}, func(faults []transactions.Fault) {
		in := made(t, endpoints.Config{Number: 1, In: true, Kind: api.Isochronous, Max: 8})
		out := made(t, endpoints.Config{Number: 1, Kind: api.Isochronous, Max: 8})
		s, w := setOf(t, in, out), transactions.NewLine(faults...)
		out.Room(12)
		var read, taken []byte
		offered := byte(0)
		for i := range byte(12) {
			if in.Offer([]byte{offered}) == api.OK {
				offered++
			}
			o, _ := transactions.Do(s, w, transactions.Try{Addr: 5, Endp: 1, What: api.In, Iso: true, Max: 8})
			read = append(read, o.Data...)
			transactions.Do(s, w, transactions.Try{Addr: 5, Endp: 1, What: api.Out, Iso: true, Data: []byte{i}})
		}
		for _, b := range out.Taken() {
			taken = append(taken, b...)
		}
		// The last eight transactions are behind the faults.
		for _, l := range [][]byte{read, taken} {
			once := len(slices.Compact(slices.Clone(l))) == len(l)
			if !slices.IsSorted(l) || !once || len(l) < 8 || l[len(l)-1] != l[len(l)-8]+7 {
				t.Fatalf("%v arrive behind %s", l, faultsText(faults))
			}
		}
	})
}

// tries are transactions of each sort.
func tries() []transactions.Try {
	return []transactions.Try{
		{What: api.In, Max: 1024}, {What: api.In, Max: 1024, Toggle: true}, {What: api.In, Max: 1024, Iso: true},
		{What: api.Out}, {What: api.Out, Toggle: true, Data: []byte{1}}, {What: api.Out, Iso: true, Data: []byte{1}},
		{What: api.Setup, Data: mixed(8, 1)},
	}
}

// TestP7_7NotThere: a token for another address, or for an endpoint that is not
// there, is not answered, nor what follows; and nothing changes by it.
func TestP7_7NotThere(t *testing.T) {
	in := made(t, endpoints.Config{Number: 3, In: true, Kind: api.Bulk, Max: 8})
	out := made(t, endpoints.Config{Number: 4, Kind: api.Bulk, Max: 8})
	iso := made(t, endpoints.Config{Number: 5, In: true, Kind: api.Isochronous, Max: 8})
	s := setOf(t, in, out, iso)
	in.Offer([]byte{1})
	iso.Offer([]byte{2})
	out.Room(1)
	for _, x := range tries() {
		for addr := range uint8(128) {
			for endp := range uint8(16) {
				there := addr == 5 && (x.What == api.In && (endp == 3 || endp == 5) || x.What == api.Out && endp == 4)
				if there {
					continue
				}
				x.Addr, x.Endp = addr, endp
				_, sent := transactions.Do(s, nil, x)
				for _, p := range sent {
					if !p.Host {
						t.Fatalf("%+v is answered with %s", x, shown(p.Packet))
					}
				}
			}
		}
	}
	got := hears(s, token(api.In, 5, 3), token(api.In, 5, 5), token(api.Out, 5, 4), data(api.Data0, 3))
	expect(t, "behind tokens for others", got, "data0 01, data0 02, none, ack")
	expect(t, "Taken", listText(out.Taken()), "[data0 03]")
}

// TestP7_7Others: packets of other transactions on the bus, in between, change
// nothing for an endpoint.
func TestP7_7Others(t *testing.T) {
	eachConfig(func(c endpoints.Config) {
		for _, other := range anyPackets() {
			if slices.ContainsFunc([]packets.Packet{token(api.In, 5, 1), token(api.Out, 5, 1)}, func(p packets.Packet) bool { return packets.Same(p, other) }) {
				continue
			}
			l := newLink(t, c, packetLists()[0])
			l.end.Room(4)
			for range 4 {
				l.set.Hear(other)
				if r := l.step(nil); r != transactions.Done {
					t.Fatalf("behind %s: result %d", shown(other), r)
				}
			}
			l.expectOrder(t, "behind "+shown(other), 0)
		}
	})
}
