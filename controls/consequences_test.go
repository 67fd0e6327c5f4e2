package controls_test

import (
	"bytes"
	"math/rand"
	"slices"
	"strconv"
	"testing"

	"plugboard/api"
	"plugboard/controls"
	"plugboard/endpoints"
	"plugboard/packets"
	"plugboard/transactions"
)

// The faults.
const (
	good = transactions.Good
	lost = transactions.Lost
)

// A Zero is what is behind endpoint 0 of a set.
var _ endpoints.Zero = (*controls.Zero)(nil)

// address is that of the sets of the tests.
const address = 5

// setOf returns a set with a Zero behind endpoint 0.
func setOf(t *testing.T, z endpoints.Zero) *endpoints.Set {
	t.Helper()
	s := endpoints.NewSet()
	if s.Address(address) != api.OK || s.Zero(z) != api.OK {
		t.Fatal("a set")
	}
	return s
}

// story is what has happened in a transfer.
type story struct {
	r       api.Request
	max     int
	reply   reply
	faults  string
	data    []byte
	e       api.Errno
	calls   []call
	results []transactions.Result
	packets []transactions.Sent
}

// tell performs a transfer with a device of its own over a wire. The Handler
// returns the reply.
func tell(t *testing.T, r api.Request, max int, reply reply, w transactions.Wire) story {
	t.Helper()
	k := &keeper{reply: reply}
	s := perform(t, setOf(t, made(t, max, k)), started(t, r, outOf(r), max), w)
	s.r, s.max, s.reply, s.calls = r, max, reply, k.calls
	return s
}

// perform lets a host perform a transfer with a device.
func perform(t *testing.T, d transactions.Device, x controls.Transfer, w transactions.Wire) story {
	t.Helper()
	s := story{}
	for {
		try, ok := controls.Next(x)
		if !ok {
			break
		}
		if len(s.results) > 100000 {
			t.Fatal("a transfer does not end")
		}
		try.Addr = address
		o, sent := transactions.Do(d, w, try)
		s.results = append(s.results, o.Result)
		s.packets = append(s.packets, sent...)
		x = controls.Answer(x, o)
	}
	s.data, s.e = controls.End(x)
	return s
}

// missed returns how many packets have not arrived.
func (s story) missed() int {
	n, opened := 0, true
	for _, p := range s.packets {
		arrived := p.Fault == good
		switch p.Packet.Pid {
		case api.Out, api.Setup:
			opened = arrived
		case api.Data0, api.Data1:
			// Behind an In token, the device does not send data unless it has arrived.
			arrived = arrived && (opened || !p.Host)
		}
		if !arrived {
			n++
		}
	}
	return n
}

// name returns a name for messages.
func (s story) name() string {
	return requestText(s.r) + ", max " + strconv.Itoa(s.max) + ", the Handler has " + strconv.Itoa(len(s.reply.in)) + " bytes, accepts " + strconv.FormatBool(s.reply.ok) + ", " + short(s.faults)
}

// expectStory checks what the chapter says about all transfers.
func expectStory(t *testing.T, s story) bool {
	t.Helper()
	handled := sameCalls(s.calls, []call{{s.r, outOf(s.r)}})
	want := []byte(nil)
	if s.r.Type >= 128 {
		want = s.reply.in[:min(len(s.reply.in), int(s.r.Length))]
	}
	few := api.ErrStall
	if s.reply.ok {
		few = api.OK
	}
	switch {
	case len(s.calls) != 0 && !handled:
		t.Errorf("%s: the Handler is called %d times, or with something else", s.name(), len(s.calls))
	case s.e == api.OK && (!handled || !s.reply.ok || !bytes.Equal(s.data, want)):
		t.Errorf("%s: OK after %d calls, %d bytes; expected %d", s.name(), len(s.calls), len(s.data), len(want))
	case s.e != api.OK && len(s.data) > 0:
		t.Errorf("%s: %d bytes, error %d", s.name(), len(s.data), s.e)
	case s.missed() <= 2 && s.e != few:
		t.Errorf("%s: %d packets do not arrive: error %d; expected %d", s.name(), s.missed(), s.e, few)
	case s.e != few && s.e != api.ErrTime:
		t.Errorf("%s: error %d", s.name(), s.e)
	default:
		return true
	}
	return false
}

// eachFaults calls f with all lists of up to n of these faults.
func eachFaults(n int, faults []transactions.Fault, f func([]transactions.Fault)) {
	var extend func(l []transactions.Fault)
	extend = func(l []transactions.Fault) {
		f(l)
		if len(l) == n {
			return
		}
		for _, next := range faults {
			extend(append(slices.Clone(l), next))
		}
	}
	extend(nil)
}

// eachPlaces calls f with all lists of faults of a length of which n are not good.
func eachPlaces(length, n int, f func([]transactions.Fault)) {
	l := make([]transactions.Fault, length)
	var place func(from, n int)
	place = func(from, n int) {
		if n == 0 {
			f(slices.Clone(l))
			return
		}
		for i := from; i < length; i++ {
			l[i] = lost
			place(i+1, n-1)
			l[i] = good
		}
	}
	place(0, n)
}

// faultsText returns faults as a text.
func faultsText(l []transactions.Fault) string {
	text := "faults "
	for _, f := range l {
		text += strconv.Itoa(int(f))
	}
	return text
}

// eachTransfer calls f with requests of each sort, and what a Handler returns.
func eachTransfer(f func(r api.Request, reply reply)) {
	for _, accepts := range []bool{true, false} {
		f(asking(inward, 0), reply{mixed(3, 3), accepts})
		f(asking(outward, 0), reply{nil, accepts})
		for _, n := range []int{1, 8, 9, 16, 17} {
			f(asking(outward, n), reply{mixed(n, 3), accepts})
		}
	}
	for _, length := range []int{1, 8, 9, 16, 17} {
		for _, n := range []int{0, 7, 8, 9, 16, 17, 18} {
			f(asking(inward, length), reply{mixed(n, 3), true})
		}
		f(asking(inward, length), reply{mixed(length, 3), false})
	}
}

// TestP8_6AllFaults: transfers with all lists of faults of the first packets.
func TestP8_6AllFaults(t *testing.T) {
	eachTransfer(func(r api.Request, reply reply) {
		check := func(l []transactions.Fault) {
			s := tell(t, r, 8, reply, transactions.NewLine(l...))
			s.faults = faultsText(l)
			expectStory(t, s)
		}
		eachFaults(9, []transactions.Fault{good, lost}, check)
		eachFaults(4, []transactions.Fault{good, transactions.Damaged, 3}, check)
	})
}

// TestP8_6AllPlaces: transfers with one, two and three faults, in all places.
func TestP8_6AllPlaces(t *testing.T) {
	outcomes := map[api.Errno]int{}
	eachTransfer(func(r api.Request, reply reply) {
		plain := tell(t, r, 8, reply, nil)
		for n := range 4 {
			eachPlaces(len(plain.packets)+6, n, func(l []transactions.Fault) {
				s := tell(t, r, 8, reply, transactions.NewLine(l...))
				s.faults = faultsText(l)
				expectStory(t, s)
				outcomes[s.e]++
			})
		}
	})
	for _, e := range []api.Errno{api.OK, api.ErrStall, api.ErrTime} {
		if outcomes[e] == 0 {
			t.Errorf("no transfer ends with the error %d", e)
		}
	}
}

// TestP8_6Sizes: transfers with packets of each size, and data of many lengths.
func TestP8_6Sizes(t *testing.T) {
	for _, max := range sizes {
		for _, length := range []int{0, 1, max - 1, max, max + 1, 3 * max, 300} {
			for _, n := range []int{0, 1, max - 1, max, max + 1, 3 * max, 3*max + 1, 300, 400} {
				eachFaults(3, []transactions.Fault{good, lost}, func(l []transactions.Fault) {
					for _, typ := range []uint8{inward, outward} {
						s := tell(t, asking(typ, length), max, reply{mixed(n, 3), true}, transactions.NewLine(l...))
						s.faults = faultsText(l)
						expectStory(t, s)
					}
				})
			}
		}
	}
}

// TestP8_6Greatest: the greatest Length, with faults now and then.
func TestP8_6Greatest(t *testing.T) {
	for _, typ := range []uint8{inward, outward} {
		for _, n := range []int{65535, 65536, 65528} {
			w := &chance{rand.New(rand.NewSource(86)), 99}
			s := tell(t, asking(typ, 65535), 8, reply{mixed(n, 3), true}, w)
			if expectStory(t, s); s.e != api.OK {
				t.Errorf("%s: error %d", s.name(), s.e)
			}
		}
	}
}

// TestP8_6Examples: the table of the chapter.
func TestP8_6Examples(t *testing.T) {
	done, stall := transactions.Done, transactions.Stall
	for i, c := range []struct {
		r       api.Request
		results []transactions.Result
		data    []byte
		e       api.Errno
	}{
		{api.Request{Type: 128, Code: 6, Length: 18}, []transactions.Result{done, done, done, done}, []byte{1, 2, 3, 4, 5, 6, 7, 8, 9, 10}, api.OK},
		{api.Request{Type: 128, Code: 6, Length: 8}, []transactions.Result{done, done, done}, []byte{1, 2, 3, 4, 5, 6, 7, 8}, api.OK},
		{api.Request{Code: 6}, []transactions.Result{done, done}, nil, api.OK},
		{api.Request{Type: 128, Code: 7, Length: 18}, []transactions.Result{done, stall}, nil, api.ErrStall},
		{api.Request{Code: 6, Length: 9}, []transactions.Result{done, done, done, done}, nil, api.OK},
	} {
		z := made(t, 8, controls.Func(chapterHandler))
		s := perform(t, setOf(t, z), started(t, c.r, outOf(c.r), 8), nil)
		if !slices.Equal(s.results, c.results) {
			t.Errorf("row %d: results %v; expected %v", i, s.results, c.results)
		}
		expectError(t, "row "+strconv.Itoa(i), s.e, c.e)
		expectBytes(t, "row "+strconv.Itoa(i), s.data, c.data)
		if finished := z.Finished() == 1; finished != (c.e == api.OK) {
			t.Errorf("row %d: %d are finished", i, z.Finished())
		}
	}
}

// chance is a wire that loses packets at random.
type chance struct {
	source *rand.Rand
	good   int // of 100 packets
}

// Next returns a fault.
func (c *chance) Next() transactions.Fault {
	if c.source.Intn(100) < c.good {
		return good
	}
	return transactions.Fault(1 + c.source.Intn(255))
}

// TestP8_6OneAfterAnother: transfers with one device, over wires that lose many
// packets; some break off in the midst of a stage.
func TestP8_6OneAfterAnother(t *testing.T) {
	source := rand.New(rand.NewSource(87))
	for round := range 200 {
		max := sizes[source.Intn(4)]
		k := &keeper{}
		z := made(t, max, k)
		d := setOf(t, z)
		w := &chance{source: source, good: 50 + source.Intn(51)}
		for range 40 {
			r := asking([]uint8{inward, outward}[source.Intn(2)], source.Intn(4*max))
			r.Value = uint16(source.Intn(1 << 16))
			k.calls, k.reply = nil, reply{mixed(source.Intn(5*max), source.Intn(9)), source.Intn(5) > 0}
			before := z.Finished()
			s := perform(t, d, started(t, r, outOf(r), max), w)
			s.r, s.max, s.reply, s.calls, s.faults = r, max, k.reply, k.calls, "round "+strconv.Itoa(round)
			if !expectStory(t, s) {
				return
			}
			if n := z.Finished() - before; n != countFinished(s) {
				t.Fatalf("%s: %d are finished", s.name(), n)
			}
		}
	}
}

// countFinished returns whether the device has heard what completes the status
// stage, as a number: data behind an Out, or the acknowledgement of its answer.
func countFinished(s story) int {
	in, opened := false, false
	for _, p := range s.packets {
		good := p.Fault == good
		switch p.Packet.Pid {
		case api.In, api.Out:
			in, opened = p.Packet.Pid == api.In, good
		case api.Setup:
			opened = false
		case api.Data1:
			if p.Host && !in && opened && good && s.r.Type >= 128 && s.r.Length > 0 {
				return 1
			}
		case api.Ack:
			if p.Host && good && (s.r.Type < 128 || s.r.Length == 0) {
				return 1
			}
		}
	}
	return 0
}

// TestP8_6Others: transactions with other endpoints, and other addresses, between
// those of a transfer change nothing.
func TestP8_6Others(t *testing.T) {
	others := []packets.Packet{token(api.In, 5, 1), hand(api.Ack), token(api.Out, 5, 1), data(api.Data1), token(api.Setup, 4, 0), data(api.Data0, full...), {Pid: api.Sof, Frame: 3}, token(api.In, 0, 0), hand(api.Ack), token(api.In, 5, 1)}
	eachTransfer(func(r api.Request, reply reply) {
		k := &keeper{reply: reply}
		d := setOf(t, made(t, 8, k))
		e, _ := endpoints.New(endpoints.Config{Number: 1, In: true, Kind: api.Bulk, Max: 8})
		d.Use(e)
		between := transactions.Func(func(p packets.Packet) (packets.Packet, bool) {
			if p.Pid == api.In || p.Pid == api.Out || p.Pid == api.Setup {
				e.Offer([]byte{1})
				for _, other := range others {
					d.Hear(other)
				}
			}
			return d.Hear(p)
		})
		s := perform(t, between, started(t, r, outOf(r), 8), nil)
		s.r, s.max, s.reply, s.calls, s.faults = r, 8, reply, k.calls, "others in between"
		expectStory(t, s)
	})
}
