package endpoints_test

import (
	"strconv"
	"testing"

	"plugboard/api"
	"plugboard/endpoints"
	"plugboard/packets"
	"plugboard/transactions"
)

// A set is a device of layer 6.
var _ transactions.Device = endpoints.NewSet()

// TestP7_5NewSet: a new set has the address 0, no endpoints and no Zero.
func TestP7_5NewSet(t *testing.T) {
	s := endpoints.NewSet()
	for number := range 256 {
		if s.Find(uint8(number), true) != nil || s.Find(uint8(number), false) != nil {
			t.Errorf("a new set has an endpoint %d", number)
		}
	}
	expect(t, "a new set", hears(s, token(api.In, 0, 0), token(api.In, 0, 1), token(api.Setup, 0, 0), data(api.Data0, mixed(8, 1)...)), "none, none, none, none")
	e := made(t, endpoints.Config{Number: 1, In: true, Kind: api.Bulk, Max: 8})
	expectError(t, "Use", s.Use(e), api.OK)
	for addr := range 128 {
		want := "none"
		if addr == 0 {
			want = "nak"
		}
		expect(t, "In with the address "+strconv.Itoa(addr), hears(s, token(api.In, uint8(addr), 1)), want)
	}
	if endpoints.NewSet().Find(1, true) != nil {
		t.Error("a new set has the endpoint of another one")
	}
}

// TestP7_5Nil: nil and zero sets, for all methods.
func TestP7_5Nil(t *testing.T) {
	var none *endpoints.Set
	e := made(t, endpoints.Config{Number: 1, In: true, Kind: api.Bulk, Max: 8})
	for name, s := range map[string]*endpoints.Set{"nil": none, "zero": {}} {
		k := &keeper{reply: reply{hand(api.Ack), true}}
		expectError(t, name+" Address", s.Address(1), api.ErrNil)
		expectError(t, name+" Address above 127", s.Address(128), api.ErrNil)
		expectError(t, name+" Use", s.Use(e), api.ErrNil)
		expectError(t, name+" Use of nothing", s.Use(), api.ErrNil)
		expectError(t, name+" Use of the same", s.Use(e, e), api.ErrNil)
		expectError(t, name+" Zero", s.Zero(k), api.ErrNil)
		expectError(t, name+" Zero of nil", s.Zero(nil), api.ErrNil)
		for number := range 256 {
			if s.Find(uint8(number), true) != nil || s.Find(uint8(number), false) != nil {
				t.Errorf("%s set has an endpoint %d", name, number)
			}
		}
		for _, addr := range []uint8{0, 1} {
			got := hears(s, token(api.In, addr, 0), token(api.In, addr, 1), token(api.Setup, addr, 0), data(api.Data0, mixed(8, 1)...), hand(api.Ack), hand(0))
			expect(t, name+" Hear", got, "none, none, none, none, none, none")
		}
		if len(k.heard) != 0 {
			t.Errorf("the Zero of a %s set has heard %s", name, k.text())
		}
	}
}

// TestP7_5Address: all addresses; a set listens to its own one alone, and keeps
// it if another one is refused.
func TestP7_5Address(t *testing.T) {
	e := made(t, endpoints.Config{Number: 1, In: true, Kind: api.Bulk, Max: 8})
	s := endpoints.NewSet()
	s.Use(e)
	own := uint8(0)
	for a := range 256 {
		want := api.ErrArg
		if a <= 127 {
			want, own = api.OK, uint8(a)
		}
		expectError(t, "Address "+strconv.Itoa(a), s.Address(uint8(a)), want)
		for addr := range uint8(128) {
			_, ok := s.Hear(token(api.In, addr, 1))
			if ok != (addr == own) {
				t.Fatalf("behind Address %d: a token for %d is answered: %t", a, addr, ok)
			}
		}
	}
}

// expectFound checks which endpoints a set has.
func expectFound(t *testing.T, name string, s *endpoints.Set, l ...*endpoints.Endpoint) {
	t.Helper()
	left := len(l)
	for number := range 256 {
		for _, in := range either {
			var want *endpoints.Endpoint
			for _, e := range l {
				if e.Config().Number == uint8(number) && e.Config().In == in {
					want = e
					left--
				}
			}
			if got := s.Find(uint8(number), in); got != want {
				t.Errorf("%s: Find of %d, In %t: an endpoint: %t; expected: %t", name, number, in, got != nil, want != nil)
			}
		}
	}
	if left != 0 {
		t.Errorf("%s: %d endpoints are not found", name, left)
	}
}

// everyEndpoint returns the 30 endpoints that a set can have.
func everyEndpoint(t *testing.T) []*endpoints.Endpoint {
	var out []*endpoints.Endpoint
	for number := range 15 {
		for _, in := range either {
			out = append(out, made(t, endpoints.Config{Number: uint8(number + 1), In: in, Kind: api.Bulk, Max: 8}))
		}
	}
	return out
}

// TestP7_5Find: all places, with all endpoints, each of them alone, and none.
func TestP7_5Find(t *testing.T) {
	l := everyEndpoint(t)
	s := setOf(t, l...)
	expectFound(t, "all", s, l...)
	for _, e := range l {
		expectError(t, "Use of one", s.Use(e), api.OK)
		expectFound(t, "one", s, e)
	}
	expectError(t, "Use of all", s.Use(l...), api.OK)
	expectFound(t, "all again", s, l...)
	expectError(t, "Use of none", s.Use(), api.OK)
	expectFound(t, "none", s)
	expect(t, "In without endpoints", hears(s, token(api.In, 5, 1)), "none")
}

// TestP7_5UseErrors: lists with nil and zero endpoints, and with two at one
// place, in any order; the endpoints of before stay in use.
func TestP7_5UseErrors(t *testing.T) {
	old := made(t, endpoints.Config{Number: 9, In: true, Kind: api.Bulk, Max: 8})
	in := made(t, endpoints.Config{Number: 1, In: true, Kind: api.Bulk, Max: 8})
	out := made(t, endpoints.Config{Number: 1, Kind: api.Bulk, Max: 8})
	other := made(t, endpoints.Config{Number: 1, In: true, Kind: api.Isochronous, Max: 9})
	second := made(t, endpoints.Config{Number: 2, In: true, Kind: api.Bulk, Max: 8})
	zero := &endpoints.Endpoint{}
	type list []*endpoints.Endpoint
	for i, c := range []struct {
		l    list
		want api.Errno
	}{
		{list{nil}, api.ErrNil}, {list{zero}, api.ErrNil}, {list{in, nil}, api.ErrNil}, {list{in, zero}, api.ErrNil},
		{list{nil, in}, api.ErrNil}, {list{zero, out}, api.ErrNil}, {list{nil, nil}, api.ErrNil}, {list{zero, zero}, api.ErrNil},
		{list{in, in}, api.ErrThere}, {list{in, other}, api.ErrThere}, {list{other, out, in}, api.ErrThere}, {list{out, second, out}, api.ErrThere},
		{list{in, in, nil}, api.ErrNil}, {list{in, other, zero}, api.ErrNil}, {list{nil, in, other}, api.ErrNil}, {list{in, zero, in}, api.ErrNil},
		{list{in, out}, api.OK}, {list{second, out, in}, api.OK}, {list{other, second}, api.OK}, {list{}, api.OK}, {nil, api.OK},
	} {
		s := setOf(t, old)
		expectError(t, "Use "+strconv.Itoa(i), s.Use(c.l...), c.want)
		if c.want != api.OK {
			c.l = list{old}
		}
		expectFound(t, "behind Use "+strconv.Itoa(i), s, c.l...)
	}
}

// TestP7_5UsedThemselves: a set uses the endpoints that were passed, not copies,
// also if another set has used them before, or uses them, too.
func TestP7_5UsedThemselves(t *testing.T) {
	in := made(t, endpoints.Config{Number: 1, In: true, Kind: api.Bulk, Max: 8})
	out := made(t, endpoints.Config{Number: 1, Kind: api.Bulk, Max: 8})
	a, b := setOf(t, in, out), setOf(t, in, out)
	in.Offer([]byte{1})
	in.Offer([]byte{2})
	out.Room(2)
	expect(t, "first set", hears(a, token(api.In, 5, 1), hand(api.Ack), token(api.Out, 5, 1), data(api.Data0, 3)), "data0 01, none, none, ack")
	expect(t, "second set", hears(b, token(api.In, 5, 1), hand(api.Ack), token(api.Out, 5, 1), data(api.Data0, 3)), "data1 02, none, none, ack")
	expect(t, "Taken", listText(out.Taken()), "[data0 03]")
	out.Halt()
	expect(t, "a halted endpoint", hears(a, token(api.Out, 5, 1), data(api.Data1, 3)), "none, stall")
	// Used again, an endpoint is as it was.
	a.Use()
	in.Offer([]byte{4})
	in.Offer([]byte{5})
	in.Halt()
	in.Clear()
	hears(b, token(api.In, 5, 1), hand(api.Ack))
	a.Use(in)
	expect(t, "used again", hears(a, token(api.In, 5, 1)), "data1 05")
}

// TestP7_5TwoAcks: of two sets that use an endpoint, and have answered with the
// same packet, only the first acknowledgement removes it.
func TestP7_5TwoAcks(t *testing.T) {
	for queued := 1; queued <= 2; queued++ {
		in := made(t, endpoints.Config{Number: 1, In: true, Kind: api.Bulk, Max: 8})
		a, b := setOf(t, in), setOf(t, in)
		for range queued {
			in.Offer([]byte{7})
		}
		expect(t, "both sets", hears(a, token(api.In, 5, 1))+", "+hears(b, token(api.In, 5, 1)), "data0 07, data0 07")
		expect(t, "their acknowledgements", hears(a, hand(api.Ack))+", "+hears(b, hand(api.Ack)), "none, none")
		if in.Waiting() != queued-1 {
			t.Errorf("%d of %d packets wait", in.Waiting(), queued)
		}
		in.Offer([]byte{8})
		expect(t, "both sets again", shown(hearOne(a)), []string{"data1 08", "data1 07"}[queued-1])
	}
}

// hearOne reads endpoint 1.
func hearOne(s *endpoints.Set) packets.Packet {
	p, _ := s.Hear(token(api.In, 5, 1))
	return p
}

// TestP7_5Zero: a Zero hears what is for endpoint 0, until there is another one,
// or none.
func TestP7_5Zero(t *testing.T) {
	s := setOf(t)
	a, b := &keeper{reply: reply{data(api.Data1, 1), true}}, &keeper{reply: reply{hand(api.Nak), true}}
	expectError(t, "Zero", s.Zero(a), api.OK)
	expect(t, "first Zero", hears(s, token(api.In, 5, 0)), "data1 01")
	expectError(t, "Zero", s.Zero(b), api.OK)
	expect(t, "second Zero", hears(s, token(api.In, 5, 0)), "nak")
	expectError(t, "Zero of nil", s.Zero(nil), api.OK)
	expect(t, "no Zero", hears(s, token(api.In, 5, 0), token(api.Out, 5, 0), data(api.Data0), token(api.Setup, 5, 0), data(api.Data0, mixed(8, 1)...), hand(api.Ack)), "none, none, none, none, none, none")
	expect(t, "heard by the first Zero", a.text(), "[9 in 5.0]")
	expect(t, "heard by the second Zero", b.text(), "[9 in 5.0]")
	expectError(t, "Zero", s.Zero(a), api.OK)
	expect(t, "first Zero again", hears(s, token(api.In, 5, 0)), "data1 01")
}

// absentZero is a Zero that answers also without an object.
type absentZero struct{}

// Hear answers.
func (*absentZero) Hear(api.Pid, packets.Packet) (packets.Packet, bool) { return hand(api.Stall), true }

// TestP7_5ZeroWithoutObject: a Zero whose object is nil is one, too; it knows
// itself what that means.
func TestP7_5ZeroWithoutObject(t *testing.T) {
	s := setOf(t)
	var none *absentZero
	expectError(t, "Zero", s.Zero(none), api.OK)
	expect(t, "a Zero without an object", hears(s, token(api.In, 5, 0), token(api.Out, 5, 0), data(api.Data0)), "stall, none, stall")
}
