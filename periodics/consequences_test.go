package periodics_test

import (
	"bytes"
	"fmt"
	"math"
	"math/rand"
	"slices"
	"testing"

	"plugboard/api"
	"plugboard/endpoints"
	"plugboard/periodics"
	"plugboard/transactions"
)

// TestP10_5One: of as many ticks as the period, exactly one is due, from any tick on
// that is not below 0.
func TestP10_5One(t *testing.T) {
	for _, period := range powers {
		for phase := range period {
			for _, from := range []int{0, 1, phase, phase + 1, period - 1, period, 777, 1048576 - period, 1048576, math.MaxInt - period} {
				due := 0
				for i := range period {
					if periodics.Due(period, phase, from+i) {
						due++
					}
				}
				if n := periodics.Count(period, phase, from, from+period); due != 1 || n != 1 {
					t.Errorf("period %d, phase %d: from %d on, %d ticks are due, and Count is %d", period, phase, from, due, n)
				}
			}
		}
	}
	for from := range 600 {
		if n := periodics.Count(256, 77, from, from+256); n != 1 {
			t.Errorf("from %d on, %d ticks are due", from, n)
		}
	}
}

// TestP10_5Phases: in each tick, of all pipes with the same period exactly that with
// one phase is due.
func TestP10_5Phases(t *testing.T) {
	for _, period := range powers {
		for _, base := range []int{0, 1048576 - 300, math.MaxInt - 600} {
			for tick := base; tick < base+600; tick++ {
				due := 0
				for phase := range period {
					if periodics.Due(period, phase, tick) {
						due++
					}
				}
				if due != 1 {
					t.Errorf("tick %d: %d pipes with the period %d are due", tick, due, period)
				}
			}
		}
	}
}

// TestP10_5Divide: the periods of pipes divide each other, and are all that there are.
func TestP10_5Divide(t *testing.T) {
	var found []int
	for s := range api.Speed(4) {
		for k := range api.Kind(5) {
			for interval := range 300 {
				if period, e := periodics.Period(s, k, interval); e == api.OK {
					found = append(found, period)
				}
			}
		}
	}
	slices.Sort(found)
	found = slices.Compact(found)
	if !slices.Equal(found, powers) {
		t.Errorf("the periods are %v", found)
	}
	for i, long := range found {
		for _, one := range found[:i] {
			if long%one != 0 {
				t.Errorf("%d does not divide %d", one, long)
			}
		}
		if !periodics.Due(long, 0, 0) || !periodics.Due(long, long-1, long-1) || api.MaxPeriod%long != 0 {
			t.Errorf("%d is not a period", long)
		}
	}
}

// The faults.
const (
	good    = transactions.Good
	lost    = transactions.Lost
	damaged = transactions.Damaged
)

// eachFaults calls f with all lists of n of these faults.
func eachFaults(n int, faults []transactions.Fault, f func([]transactions.Fault)) {
	l := make([]transactions.Fault, n)
	var set func(i int)
	set = func(i int) {
		if i == n {
			f(slices.Clone(l))
			return
		}
		for _, l[i] = range faults {
			set(i + 1)
		}
	}
	set(0)
}

// address is that of the sets of the tests.
const address = 5

// link is an isochronous endpoint of a device, and the host that performs transfers
// with it.
type link struct {
	name    string
	set     *endpoints.Set
	end     *endpoints.Endpoint
	wire    transactions.Wire
	ahead   int      // In: how many packets the device lets wait
	queue   [][]byte // In: the packets that the device has not offered
	arrived [][]byte // the packets of data that have arrived at the other side
	taken   [][]byte // Out: the packets that the device has taken
}

// newLink returns a link with an endpoint of its own in a set of its own.
func newLink(t *testing.T, in bool, max int, w transactions.Wire, name string) *link {
	t.Helper()
	e, err := endpoints.New(endpoints.Config{Number: 3, In: in, Kind: api.Isochronous, Max: max})
	s := endpoints.NewSet()
	if err != api.OK || s.Address(address) != api.OK || s.Use(e) != api.OK {
		t.Fatalf("%s: an endpoint: error %d", name, err)
	}
	return &link{name: name, set: s, end: e, wire: w, ahead: 1}
}

// prepare gives the endpoint a packet, or room for one.
func (l *link) prepare(t *testing.T) {
	t.Helper()
	if !l.end.Config().In {
		l.end.Room(1)
		return
	}
	for l.end.Waiting() < l.ahead {
		if e := l.end.Offer(l.queue[0]); e != api.OK {
			t.Fatalf("%s: Offer: error %d", l.name, e)
		}
		l.queue = l.queue[1:]
	}
}

// note notes what has arrived of the packets that were sent in a transaction. The
// data of an Out arrives only if its token has.
func (l *link) note(sent []transactions.Sent) {
	for i, s := range sent {
		isData := s.Packet.Pid == api.Data0 || s.Packet.Pid == api.Data1
		if isData && s.Fault == good && (!s.Host || sent[i-1].Fault == good) {
			l.arrived = append(l.arrived, s.Packet.Data)
		}
	}
}

// perform performs a transfer with a transaction for each packet, and returns what
// became of these.
func (l *link) perform(t *testing.T, p periodics.Plan) []periodics.Piece {
	t.Helper()
	p.Endp = 3
	x := started(t, p)
	n := 0
	for try, ok := periodics.Next(x); ok; try, ok = periodics.Next(x) {
		l.prepare(t)
		try.Addr = address
		o, sent := transactions.Do(l.set, l.wire, try)
		l.note(sent)
		l.taken = append(l.taken, l.end.Taken()...)
		x = periodics.Answer(x, o)
		n++
	}
	pieces, over := periodics.End(x)
	if !over || len(pieces) != n || n != max(p.Many, len(p.Packets)) {
		t.Errorf("%s: over %t, %d pieces behind %d transactions", l.name, over, len(pieces), n)
	}
	return pieces
}

// packetsOf returns n packets that differ, of up to so many bytes.
func packetsOf(n, max int) [][]byte {
	l := make([][]byte, n)
	for i := range l {
		l[i] = append(mixed((i+max)%max, 3*i), byte(i))
	}
	return l
}

// dataOf returns the data of the pieces that are OK.
func dataOf(pieces []periodics.Piece) [][]byte {
	var l [][]byte
	for _, p := range pieces {
		if p.Errno == api.OK {
			l = append(l, p.Data)
		}
	}
	return l
}

// expectLists compares lists of packets.
func expectLists(t *testing.T, name string, got, want [][]byte) {
	t.Helper()
	if !slices.EqualFunc(got, want, bytes.Equal) {
		t.Errorf("%s: %s; expected %s", name, short(fmt.Sprint(got)), short(fmt.Sprint(want)))
	}
}

// expectOrder checks that packets are some of others, in their order, each once.
func expectOrder(t *testing.T, name string, some, all [][]byte) {
	t.Helper()
	at := 0
	for i, packet := range some {
		n := slices.IndexFunc(all[at:], func(b []byte) bool { return bytes.Equal(b, packet) })
		if n < 0 {
			t.Errorf("%s: packet %d of those that arrived is not behind the one before", name, i)
			return
		}
		at += n + 1
	}
}

// expectRead performs transfers that read, and checks that the pieces that are OK are
// the packets that have arrived. All of the others are ErrTime, with nothing of them
// at the host.
func (l *link) expectRead(t *testing.T, max int, counts ...int) {
	t.Helper()
	total := 2
	for _, n := range counts {
		total += n
	}
	offered := packetsOf(total, max)
	l.queue = offered
	var pieces []periodics.Piece
	for _, n := range counts {
		pieces = append(pieces, l.perform(t, reading(n, max))...)
	}
	expectLists(t, l.name+", what was read", dataOf(pieces), l.arrived)
	expectOrder(t, l.name, l.arrived, offered)
	for i, p := range pieces {
		if p.Errno != api.OK && (p.Errno != api.ErrTime || len(p.Data) > 0) {
			t.Errorf("%s: piece %d has the error %d, and %d bytes", l.name, i, p.Errno, len(p.Data))
		}
	}
}

// expectWritten performs transfers that write, and checks that the packets that were
// taken are those that have arrived. The host is not told, so all pieces are OK.
func (l *link) expectWritten(t *testing.T, max int, counts ...int) {
	t.Helper()
	var all [][]byte
	for _, n := range counts {
		p := periodics.Plan{Max: max, Packets: packetsOf(n, max)}
		all = append(all, p.Packets...)
		for i, piece := range l.perform(t, p) {
			if piece.Errno != api.OK || len(piece.Data) > 0 {
				t.Errorf("%s: piece %d has the error %d, and %d bytes", l.name, i, piece.Errno, len(piece.Data))
			}
		}
	}
	expectLists(t, l.name+", what was taken", l.taken, l.arrived)
	expectOrder(t, l.name, l.arrived, all)
}

// TestP10_5AllFaults: transfers over wires with all short lists of faults.
func TestP10_5AllFaults(t *testing.T) {
	check := func(faults []transactions.Fault) {
		wire := func() transactions.Wire { return transactions.NewLine(faults...) }
		name := fmt.Sprint("faults ", faults)
		for ahead := 1; ahead <= endpoints.MaxQueue; ahead++ {
			l := newLink(t, true, 8, wire(), name+", reading")
			l.ahead = ahead
			l.expectRead(t, 8, 5, 1)
		}
		newLink(t, false, 8, wire(), name+", writing").expectWritten(t, 8, 5, 1)
	}
	eachFaults(9, []transactions.Fault{good, lost}, check)
	eachFaults(5, []transactions.Fault{good, lost, damaged, 3}, check)
}

// TestP10_5Faults: what arrives, literally: a token that is lost leaves the packet of
// an In where it is, data that is lost is gone.
func TestP10_5Faults(t *testing.T) {
	for _, c := range []struct {
		faults        []transactions.Fault
		read, written string
	}{
		{nil, "[{0 [1]} {0 [2]} {0 [3]}], true", "[[1] [2] [3]]"},
		{[]transactions.Fault{lost}, "[{11 []} {0 [1]} {0 [2]}], true", "[[2] [3]]"},
		{[]transactions.Fault{good, lost}, "[{11 []} {0 [2]} {0 [3]}], true", "[[2] [3]]"},
		{[]transactions.Fault{good, good, damaged}, "[{0 [1]} {11 []} {0 [2]}], true", "[[1] [3]]"},
		{[]transactions.Fault{good, damaged, lost, lost}, "[{11 []} {11 []} {11 []}], true", "[[3]]"},
		{[]transactions.Fault{lost, good, lost, good, lost}, "[{11 []} {11 []} {11 []}], true", "[]"},
	} {
		l := newLink(t, true, 8, transactions.NewLine(c.faults...), "reading")
		l.queue = [][]byte{{1}, {2}, {3}}
		expect(t, fmt.Sprint("faults ", c.faults, ", reading"), endText(l.perform(t, reading(3, 8)), true), c.read)
		l = newLink(t, false, 8, transactions.NewLine(c.faults...), "writing")
		l.perform(t, periodics.Plan{Max: 8, Packets: [][]byte{{1}, {2}, {3}}})
		expect(t, fmt.Sprint("faults ", c.faults, ", writing"), fmt.Sprint(l.taken), c.written)
	}
}

// chance is a wire that loses packets at random.
type chance struct {
	source *rand.Rand
	good   int // of 1000 packets
}

// Next returns a fault.
func (c *chance) Next() transactions.Fault {
	if c.source.Intn(1000) < c.good {
		return good
	}
	return transactions.Fault(1 + c.source.Intn(255))
}

// TestP10_5LongRuns: many transfers with one endpoint, over wires that lose many
// packets, with packets of all sizes.
func TestP10_5LongRuns(t *testing.T) {
	source := rand.New(rand.NewSource(107))
	for round := range 150 {
		max := sizes[source.Intn(len(sizes))]
		w := &chance{source, 400 + source.Intn(601)}
		counts := []int{1 + source.Intn(256), 256, 1 + source.Intn(9), 1}
		name := fmt.Sprintf("round %d, max %d, %v", round, max, counts)
		l := newLink(t, true, max, w, name+", reading")
		l.ahead = 1 + round%2
		l.expectRead(t, max, counts...)
		newLink(t, false, max, w, name+", writing").expectWritten(t, max, counts...)
	}
}

// TestP10_5Babble: packets of more bytes than the host accepts arrive, but their
// pieces are ErrBabble. The others are OK.
func TestP10_5Babble(t *testing.T) {
	for _, max := range []int{1, 8, 1023} {
		l := newLink(t, true, max+1, nil, "babble")
		l.queue = [][]byte{mixed(max, 1), mixed(max+1, 1), {}, mixed(max+1, 2), mixed(max, 2)}
		want := []periodics.Piece{{Data: mixed(max, 1)}, {Errno: api.ErrBabble}, {}, {Errno: api.ErrBabble}, {Data: mixed(max, 2)}}
		expect(t, "babble", endText(l.perform(t, reading(5, max)), true), endText(want, true))
	}
}

// TestP10_5Without: endpoints without a packet answer without data, which is OK, and
// a device that is not there leaves ErrTime.
func TestP10_5Without(t *testing.T) {
	l := newLink(t, true, 8, nil, "without packets")
	l.ahead = 0
	expect(t, l.name, endText(l.perform(t, reading(2, 8)), true), "[{0 []} {0 []}], true")
	l = newLink(t, true, 8, nil, "another address")
	l.ahead = 0
	l.set.Address(address + 1)
	expect(t, l.name, endText(l.perform(t, reading(2, 8)), true), "[{11 []} {11 []}], true")
}
