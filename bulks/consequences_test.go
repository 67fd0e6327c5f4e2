package bulks_test

import (
	"bytes"
	"math/rand"
	"slices"
	"strconv"
	"testing"

	"plugboard/api"
	"plugboard/bulks"
	"plugboard/endpoints"
	"plugboard/transactions"
)

// TestP9_6JoinCut: Join of what Cut returns is the bytes, as one transfer without a
// rest.
func TestP9_6JoinCut(t *testing.T) {
	memory := mixed(70000, 1)
	check := func(n, max int) {
		l, e := bulks.Cut(memory[:n], max, true)
		expectError(t, "Cut", e, api.OK)
		done, rest, e := bulks.Join(l, max)
		if e != api.OK || !sameLists(done, [][]byte{memory[:n]}) || len(rest) > 0 {
			t.Errorf("%d bytes, max %d: %s are joined as %s, the rest has %s, error %d", n, max, lengths(l), lengths(done), shown(rest), e)
		}
	}
	for max := 1; max <= 1024; max++ {
		for _, n := range around(0, max, 2*max, 3*max) {
			check(n, max)
		}
	}
	for max := 1; max < 20; max++ {
		for n := range 100 {
			check(n, max)
		}
	}
	for _, max := range sizes {
		check(65536, max)
		check(70000, max)
	}
}

// The faults.
const (
	good = transactions.Good
	lost = transactions.Lost
)

// eachFaults calls f with all lists of up to n of these faults.
func eachFaults(n int, faults []transactions.Fault, f func([]transactions.Fault)) {
	var extend func(l []transactions.Fault)
	extend = func(l []transactions.Fault) {
		f(l)
		if len(l) == n {
			return
		}
		for _, next := range faults {
			extend(append(slices.Clone(l), next))
		}
	}
	extend(nil)
}

// faultsText returns faults as a text.
func faultsText(l []transactions.Fault) string {
	text := "faults "
	for _, f := range l {
		text += strconv.Itoa(int(f))
	}
	return text
}

// chance is a wire that loses packets at random.
type chance struct {
	source *rand.Rand
	good   int // of 1000 packets
}

// Next returns a fault.
func (c *chance) Next() transactions.Fault {
	if c.source.Intn(1000) < c.good {
		return good
	}
	return transactions.Fault(1 + c.source.Intn(255))
}

// address is that of the sets of the tests.
const address = 5

// link is an endpoint of a device, with the host that performs transfers with it,
// and all that they have said to each other.
type link struct {
	name     string
	set      *endpoints.Set
	end      *endpoints.Endpoint
	wire     transactions.Wire
	toggle   bool     // of the host
	queue    [][]byte // In: the packets that the device has not offered
	offered  []byte   // In: the bytes that it has
	taken    [][]byte // Out: the packets that the device has taken
	done     [][]byte // what was moved by transactions of transfers that go on or ended with OK
	checked  int      // how many of these have been checked
	received int      // In: the bytes of these
	next     *[]byte  // Out: the packet of the last transaction, if that was not Done
	before   func(l *link)
	attempts int
}

// newLink returns a link with an endpoint of its own in a set of its own. It always
// has room.
func newLink(t *testing.T, c endpoints.Config, w transactions.Wire, name string) *link {
	t.Helper()
	e, err := endpoints.New(c)
	s := endpoints.NewSet()
	if err != api.OK || s.Address(address) != api.OK || s.Use(e) != api.OK {
		t.Fatalf("%s: an endpoint: error %d", name, err)
	}
	return &link{name: name, set: s, end: e, wire: w, before: func(*link) { e.Room(1) }}
}

// offer lets the device offer as many packets as there is room for.
func (l *link) offer() {
	for len(l.queue) > 0 && l.end.Offer(l.queue[0]) == api.OK {
		l.offered = append(l.offered, l.queue[0]...)
		l.queue = l.queue[1:]
	}
}

// attempt performs a transaction of a transfer, and notes what becomes of its bytes.
func (l *link) attempt(try transactions.Try) transactions.Outcome {
	l.attempts++
	l.before(l)
	l.offer()
	try.Addr = address
	o, _ := transactions.Do(l.set, l.wire, try)
	l.taken = append(l.taken, l.end.Taken()...)
	l.next = nil
	switch {
	case try.What == api.Out && o.Result == transactions.Done:
		l.done = append(l.done, try.Data)
	case try.What == api.Out:
		l.next = &try.Data
	}
	return o
}

// expectOrder checks what the chapter says about any time. What was moved earlier has
// been checked at that time.
func (l *link) expectOrder(t *testing.T) {
	t.Helper()
	in := l.end.Config().In
	for ; l.checked < len(l.done); l.checked++ {
		b := l.done[l.checked]
		if in && !bytes.HasPrefix(l.offered[l.received:], b) {
			t.Fatalf("%s: packet %d is %s; offered were %s", l.name, l.checked, shown(b), shown(l.offered[l.received:]))
		}
		if !in && (l.checked >= len(l.taken) || !bytes.Equal(l.taken[l.checked], b)) {
			t.Fatalf("%s: packet %d is %s, but %s are taken", l.name, l.checked, shown(b), lengths(l.taken))
		}
		l.received += len(b)
	}
	if extra := l.taken[min(l.checked, len(l.taken)):]; len(extra) > 1 || len(extra) == 1 && (l.next == nil || !bytes.Equal(extra[0], *l.next)) {
		t.Fatalf("%s: %s are taken, but not acknowledged", l.name, lengths(extra))
	}
}

// perform performs a transfer, and returns how it ended. It begins with the toggle
// of the one before.
func (l *link) perform(t *testing.T, p bulks.Plan) bulks.Ending {
	t.Helper()
	p.Endp, p.Toggle = l.end.Config().Number, l.toggle
	x := started(t, p)
	first := len(l.done)
	for try, ok := bulks.Next(x); ok; try, ok = bulks.Next(x) {
		o := l.attempt(try)
		x = bulks.Answer(x, o)
		ending, over := bulks.End(x)
		if try.What == api.In && o.Result == transactions.Done && (!over || ending.Errno == api.OK) {
			l.done = append(l.done, o.Data)
		}
		l.expectOrder(t)
		if l.attempts > 100000 {
			t.Fatalf("%s: a transfer does not end", l.name)
		}
	}
	ending, over := bulks.End(x)
	moved := slices.Concat(l.done[first:]...)
	if !over || ending.Actual != len(moved) || p.In && !bytes.Equal(ending.Data, moved) || !p.In && len(ending.Data) > 0 {
		t.Fatalf("%s: %s; %s were moved", l.name, endText(ending, over), shown(moved))
	}
	if !p.In && (!bytes.HasPrefix(p.Data, moved) || ending.Errno == api.OK && len(moved) < len(p.Data)) {
		t.Fatalf("%s: %s; %s of %s are moved", l.name, endText(ending, over), shown(moved), shown(p.Data))
	}
	l.toggle = bulks.Toggle(x)
	return ending
}

// performAll performs transfers as long as they end with OK. It returns the number
// of these, and the last error.
func (l *link) performAll(t *testing.T, plans []bulks.Plan) (int, api.Errno) {
	t.Helper()
	for i, p := range plans {
		if ending := l.perform(t, p); ending.Errno != api.OK {
			return i, ending.Errno
		}
	}
	return len(plans), api.OK
}

// bulk returns the configuration of an endpoint.
func bulk(in bool, max int) endpoints.Config {
	return endpoints.Config{Number: 1, In: in, Kind: api.Bulk, Max: max}
}

// writes returns plans that write as many bytes as these.
func writes(max int, zero bool, l ...int) []bulks.Plan {
	plans := make([]bulks.Plan, len(l))
	for i, n := range l {
		plans[i] = bulks.Plan{Endp: 1, Max: max, Data: mixed(n, 31*i), Zero: zero}
	}
	return plans
}

// reads returns plans that read as many bytes as these.
func reads(max int, l ...int) []bulks.Plan {
	plans := make([]bulks.Plan, len(l))
	for i, n := range l {
		plans[i] = reading(n, max)
	}
	return plans
}

// cutAll returns the packets of transfers with as many bytes as these.
func cutAll(t *testing.T, max int, l ...int) [][]byte {
	t.Helper()
	var all [][]byte
	for i, n := range l {
		some, e := bulks.Cut(mixed(n, 17*i), max, true)
		expectError(t, "Cut", e, api.OK)
		all = append(all, some...)
	}
	return all
}

// counts counts how sequences of transfers ended.
type counts map[api.Errno]int

// expectAll checks that all of these errors have occurred: otherwise the sequences
// would not show what their test is about.
func (c counts) expectAll(t *testing.T, l ...api.Errno) {
	t.Helper()
	for _, e := range l {
		if c[e] == 0 {
			t.Errorf("no sequence ends with the error %d", e)
		}
	}
}

// TestP9_6WriteAllFaults: transfers are written, with all lists of faults.
func TestP9_6WriteAllFaults(t *testing.T) {
	ends := counts{}
	for _, zero := range either {
		for _, plans := range [][]bulks.Plan{writes(2, zero, 4, 0, 3), writes(2, zero, 0, 0, 0), writes(2, zero, 1, 2, 2), writes(1, zero, 3, 2), writes(8, zero, 5, 5)} {
			check := func(faults []transactions.Fault) {
				l := newLink(t, bulk(false, plans[0].Max), transactions.NewLine(faults...), faultsText(faults))
				n, e := l.performAll(t, plans)
				ends[e]++
				if e == api.OK {
					l.expectWritten(t, plans)
				} else if e != api.ErrTime || n > 2 {
					t.Fatalf("%s: error %d behind %d transfers", l.name, e, n)
				}
			}
			eachFaults(9, []transactions.Fault{good, lost}, check)
			eachFaults(4, []transactions.Fault{good, transactions.Damaged, 3}, check)
		}
	}
	ends.expectAll(t, api.OK, api.ErrTime)
}

// expectWritten checks that a device has taken exactly these transfers. If they were
// terminated, it can tell them apart.
func (l *link) expectWritten(t *testing.T, plans []bulks.Plan) {
	t.Helper()
	var want [][]byte
	for _, p := range plans {
		want = append(want, p.Data)
	}
	if got := slices.Concat(l.taken...); !bytes.Equal(got, slices.Concat(want...)) {
		t.Fatalf("%s: %s are taken of %s", l.name, shown(got), lengths(want))
	}
	if !plans[0].Zero {
		return
	}
	transfers, rest, e := bulks.Join(l.taken, plans[0].Max)
	if e != api.OK || !sameLists(transfers, want) || len(rest) > 0 {
		t.Fatalf("%s: %s are joined as %s; expected %s", l.name, lengths(l.taken), lengths(transfers), lengths(want))
	}
}

// TestP9_6ReadAllFaults: transfers are read, with all lists of faults. The host asks
// for more than there is, for as much, and for less.
func TestP9_6ReadAllFaults(t *testing.T) {
	ends := counts{}
	offers := []int{4, 3, 0, 5}
	for _, plans := range [][]bulks.Plan{reads(2, 20, 20, 20, 20), reads(2, 4, 0, 3, 3, 8), reads(2, 2, 2, 2, 2), reads(2, 2, 3, 3), reads(2, 5, 1), reads(2, 1)} {
		check := func(faults []transactions.Fault) {
			l := newLink(t, bulk(true, 2), transactions.NewLine(faults...), faultsText(faults))
			l.queue = cutAll(t, 2, offers...)
			n, e := l.performAll(t, plans)
			ends[e]++
			if e != api.OK && e != api.ErrTime && e != api.ErrBabble {
				t.Fatalf("%s: error %d behind %d transfers", l.name, e, n)
			}
			if plans[0].Length == 20 && n == 4 && !bytes.Equal(slices.Concat(l.done...), slices.Concat(cutAll(t, 2, offers...)...)) {
				t.Fatalf("%s: %s are read", l.name, lengths(l.done))
			}
		}
		eachFaults(9, []transactions.Fault{good, lost}, check)
		eachFaults(4, []transactions.Fault{good, transactions.Damaged, 3}, check)
	}
	ends.expectAll(t, api.OK, api.ErrTime, api.ErrBabble)
}

// TestP9_6Places: with one or two packets that do not arrive, wherever they are, all
// transfers end with OK.
func TestP9_6Places(t *testing.T) {
	written := writes(8, true, 17, 16, 0, 8)
	offers := []int{17, 16, 0, 8}
	for first := range 40 {
		for second := range 40 {
			faults := make([]transactions.Fault, 40)
			faults[first], faults[second] = lost, lost
			l := newLink(t, bulk(false, 8), transactions.NewLine(faults...), "writing, "+faultsText(faults))
			if n, e := l.performAll(t, written); e != api.OK {
				t.Errorf("%s: error %d behind %d transfers", l.name, e, n)
			}
			l.expectWritten(t, written)
			l = newLink(t, bulk(true, 8), transactions.NewLine(faults...), "reading, "+faultsText(faults))
			l.queue = cutAll(t, 8, offers...)
			for i, n := range offers {
				ending := l.perform(t, reading(100, 8))
				expectError(t, l.name, ending.Errno, api.OK)
				expectBytes(t, l.name, ending.Data, mixed(n, 17*i))
			}
		}
	}
}

// TestP9_6Refusals: endpoints without room, or with nothing to read, let the host
// wait, and one that is halted ends the transfer. What was moved stays in order.
func TestP9_6Refusals(t *testing.T) {
	ends := counts{}
	for _, kind := range []api.Kind{api.Bulk, api.Interrupt} {
		for halted := range 60 {
			for _, in := range either {
				c := bulk(in, 8)
				c.Kind = kind
				l := newLink(t, c, &chance{rand.New(rand.NewSource(int64(halted))), 950}, "halted at "+strconv.Itoa(halted))
				packets := cutAll(t, 8, 17, 16, 30)
				l.before = func(l *link) {
					l.end.Room(l.attempts / 3 % 2)
					if l.attempts%3 == 0 && len(packets) > 0 {
						l.queue, packets = append(l.queue, packets[0]), packets[1:]
					}
					if l.attempts == halted {
						l.end.Halt()
					}
				}
				plans := reads(8, 100, 100, 100)
				if !in {
					plans = writes(8, true, 17, 16, 30)
				}
				_, e := l.performAll(t, plans)
				ends[e]++
			}
		}
	}
	ends.expectAll(t, api.OK, api.ErrStall)
}

// TestP9_6LongRuns: many transfers with one endpoint, over wires that lose many
// packets, with packets of all sizes.
func TestP9_6LongRuns(t *testing.T) {
	source := rand.New(rand.NewSource(97))
	ends := counts{}
	for round := range 400 {
		max := sizes[source.Intn(len(sizes))]
		in := round%2 == 0
		number := uint8(1 + source.Intn(15))
		c := endpoints.Config{Number: number, In: in, Kind: []api.Kind{api.Bulk, api.Interrupt}[source.Intn(2)], Max: max}
		l := newLink(t, c, &chance{source, 600 + source.Intn(401)}, "round "+strconv.Itoa(round))
		l.before = func(l *link) { l.end.Room(source.Intn(3)) }
		var sizes []int
		var plans []bulks.Plan
		for range 20 {
			n := []int{max * source.Intn(20), source.Intn(20*max + 1)}[source.Intn(2)]
			sizes = append(sizes, n)
			plans = append(plans, reading(n+max*source.Intn(2), max))
		}
		if in {
			l.queue = cutAll(t, max, sizes...)
		} else {
			plans = writes(max, true, sizes...)
		}
		n, e := l.performAll(t, plans)
		ends[e]++
		if e == api.OK && !in {
			l.expectWritten(t, plans[:n])
		}
	}
	ends.expectAll(t, api.OK, api.ErrTime)
}

// TestP9_6Greatest: transfers of the greatest length, over a wire that loses packets
// now and then.
func TestP9_6Greatest(t *testing.T) {
	for _, max := range []int{8, 512, 1024} {
		w := &chance{rand.New(rand.NewSource(98)), 995}
		l := newLink(t, bulk(false, max), w, "writing, max "+strconv.Itoa(max))
		plans := writes(max, true, 65536, 65535)
		if n, e := l.performAll(t, plans); e != api.OK {
			t.Errorf("%s: error %d behind %d transfers", l.name, e, n)
		}
		l.expectWritten(t, plans)
		l = newLink(t, bulk(true, max), w, "reading, max "+strconv.Itoa(max))
		l.queue = cutAll(t, max, 65536-max, 65535)
		for i, n := range []int{65536 - max, 65535} {
			ending := l.perform(t, reading(65536, max))
			expectError(t, l.name, ending.Errno, api.OK)
			expectBytes(t, l.name, ending.Data, mixed(n, 17*i))
		}
	}
}
