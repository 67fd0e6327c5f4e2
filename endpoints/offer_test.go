package endpoints_test

import (
	"strconv"
	"testing"

	"plugboard/api"
	"plugboard/endpoints"
)

// expectOffer compares Offer of n bytes to an endpoint with the promise; as many
// packets as may be are offered to it before.
func expectOffer(t *testing.T, c endpoints.Config, offered, n int) {
	t.Helper()
	e := made(t, c)
	for range offered {
		e.Offer([]byte{1})
	}
	want, waiting := api.OK, offered
	switch {
	case !c.In:
		want, waiting = api.ErrArg, 0
	case n > c.Max:
		want = api.ErrLimit
	case offered == 2:
		want = api.ErrFull
	default:
		waiting++
	}
	name := "Offer of " + strconv.Itoa(n) + " bytes, Max " + strconv.Itoa(c.Max) + ", " + strconv.Itoa(offered) + " waiting"
	expectError(t, name, e.Offer(mixed(n, 3)), want)
	if e.Waiting() != waiting {
		t.Errorf("%s: %d waiting behind it; expected %d", name, e.Waiting(), waiting)
	}
}

// TestP7_2Errors: all errors, and which comes first, for packets of all lengths
// near Max, with a queue that is empty, has one packet, and is full.
func TestP7_2Errors(t *testing.T) {
	for _, in := range either {
		for _, kind := range allKinds {
			for _, most := range []int{1, 2, 8, 1023, 1024} {
				for offered := range 3 {
					for _, n := range []int{0, 1, most - 1, most, most + 1, most + 2, 5000} {
						expectOffer(t, endpoints.Config{Number: 2, In: in, Kind: kind, Max: most}, offered, n)
					}
				}
			}
		}
	}
}

// TestP7_2Order: packets are read in the order in which they were offered, and
// those that were refused are not among them.
func TestP7_2Order(t *testing.T) {
	for _, kind := range handshaking {
		for _, n := range []int{0, 1, 1023, 1024} {
			e := made(t, endpoints.Config{Number: 15, In: true, Kind: kind, Max: 1024})
			s := setOf(t, e)
			first, second := mixed(n, 1), mixed(1024-n, 2)
			expectError(t, "first Offer", e.Offer(first), api.OK)
			expectError(t, "Offer of too much", e.Offer(mixed(1025, 4)), api.ErrLimit)
			expectError(t, "second Offer", e.Offer(second), api.OK)
			expectError(t, "third Offer", e.Offer([]byte{9}), api.ErrFull)
			read := hears(s, token(api.In, 5, 15), hand(api.Ack), token(api.In, 5, 15), hand(api.Ack), token(api.In, 5, 15))
			expect(t, "packets", read, shown(data(api.Data0, first...))+", none, "+shown(data(api.Data1, second...))+", none, nak")
		}
	}
}

// TestP7_2Waiting: the number of packets falls with each acknowledgement (of an
// isochronous endpoint with each token), and there may be another one then.
func TestP7_2Waiting(t *testing.T) {
	for _, kind := range allKinds {
		e := made(t, endpoints.Config{Number: 1, In: true, Kind: kind, Max: 8})
		s := setOf(t, e)
		waiting := func(name string, want int) {
			t.Helper()
			if e.Waiting() != want {
				t.Errorf("kind %d: %d waiting behind %s; expected %d", kind, e.Waiting(), name, want)
			}
		}
		waiting("New", 0)
		e.Offer(nil)
		waiting("an empty packet", 1)
		e.Offer([]byte{1})
		waiting("another packet", 2)
		expectError(t, "a third Offer", e.Offer([]byte{2}), api.ErrFull)
		waiting("a refused packet", 2)
		behindToken, behindAck := 2, 1
		if kind == api.Isochronous {
			behindToken = 1
		}
		hears(s, token(api.In, 5, 1))
		waiting("In", behindToken)
		hears(s, hand(api.Ack))
		waiting("Ack", behindAck)
		expectError(t, "Offer into a queue that was full", e.Offer([]byte{3}), api.OK)
		waiting("Offer", 2)
	}
}

// TestP7_2Halted: packets may be offered to an endpoint that is halted.
func TestP7_2Halted(t *testing.T) {
	e := made(t, endpoints.Config{Number: 1, In: true, Kind: api.Bulk, Max: 8})
	e.Halt()
	expectError(t, "Offer", e.Offer([]byte{7}), api.OK)
	if e.Waiting() != 1 {
		t.Errorf("%d waiting", e.Waiting())
	}
}
