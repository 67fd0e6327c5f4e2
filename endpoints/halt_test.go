package endpoints_test

import (
	"testing"

	"plugboard/api"
	"plugboard/endpoints"
)

// TestP7_4Halt: an endpoint is halted until it is cleared; an isochronous one
// cannot be.
func TestP7_4Halt(t *testing.T) {
	for _, in := range either {
		for _, kind := range allKinds {
			e := made(t, endpoints.Config{Number: 1, In: in, Kind: kind, Max: 8})
			want := api.OK
			if kind == api.Isochronous {
				want = api.ErrArg
			}
			halted := func(name string, want bool) {
				t.Helper()
				if e.Halted() != want {
					t.Errorf("kind %d, In %t: halted behind %s: %t", kind, in, name, e.Halted())
				}
			}
			halted("New", false)
			expectError(t, "Clear of a new one", e.Clear(), api.OK)
			halted("Clear", false)
			for range 2 {
				expectError(t, "Halt", e.Halt(), want)
				halted("Halt", want == api.OK)
				expectError(t, "Halt again", e.Halt(), want)
				halted("Halt again", want == api.OK)
				expectError(t, "Clear", e.Clear(), api.OK)
				halted("Clear", false)
			}
		}
	}
}

// TestP7_4Answers: an endpoint that is halted answers Stall, whatever waits, and
// whatever is written; then it goes on where it was, but with the toggle reset.
func TestP7_4Answers(t *testing.T) {
	for _, kind := range handshaking {
		in := made(t, endpoints.Config{Number: 1, In: true, Kind: kind, Max: 8})
		out := made(t, endpoints.Config{Number: 1, Kind: kind, Max: 8})
		s := setOf(t, in, out)
		out.Room(4)
		in.Offer([]byte{1})
		read, write0, write1 := token(api.In, 5, 1), data(api.Data0, 5), data(api.Data1, 6)
		hears(s, read, hand(api.Ack), token(api.Out, 5, 1), write0)
		in.Halt()
		out.Halt()
		got := hears(s, read, hand(api.Ack), token(api.Out, 5, 1), write0, token(api.Out, 5, 1), write1, token(api.Out, 5, 1), data(api.Data1, mixed(9, 1)...))
		expect(t, "answers of halted endpoints", got, "stall, none, none, stall, none, stall, none, stall")
		in.Offer([]byte{2})
		in.Offer([]byte{3})
		expect(t, "In with packets that wait", hears(s, read, hand(api.Ack), read), "stall, none, stall")
		if in.Waiting() != 2 {
			t.Errorf("%d packets wait at a halted endpoint", in.Waiting())
		}
		in.Clear()
		out.Clear()
		got = hears(s, read, hand(api.Ack), read, token(api.Out, 5, 1), write1, token(api.Out, 5, 1), write0)
		expect(t, "answers of cleared endpoints", got, "data0 02, none, data1 03, none, ack, none, ack")
		expect(t, "Taken", listText(out.Taken()), "[data0 05, data0 05]")
	}
}

// TestP7_4Clear: Clear resets the toggle, also of an endpoint that is not halted;
// packets that wait or were taken, and the room, remain.
func TestP7_4Clear(t *testing.T) {
	for _, kind := range handshaking {
		for _, halts := range either {
			in := made(t, endpoints.Config{Number: 1, In: true, Kind: kind, Max: 8})
			out := made(t, endpoints.Config{Number: 1, Kind: kind, Max: 8})
			s := setOf(t, in, out)
			in.Offer([]byte{1})
			in.Offer([]byte{2})
			out.Room(2)
			hears(s, token(api.In, 5, 1), hand(api.Ack), token(api.Out, 5, 1), data(api.Data0, 3))
			in.Offer([]byte{4})
			for _, e := range []*endpoints.Endpoint{in, out} {
				if halts {
					e.Halt()
				}
				expectError(t, "Clear", e.Clear(), api.OK)
			}
			if in.Waiting() != 2 {
				t.Errorf("%d packets wait behind Clear", in.Waiting())
			}
			got := hears(s, token(api.In, 5, 1), hand(api.Ack), token(api.In, 5, 1))
			expect(t, "packets behind Clear", got, "data0 02, none, data1 04")
			got = hears(s, token(api.Out, 5, 1), data(api.Data0, 5), token(api.Out, 5, 1), data(api.Data1, 6))
			expect(t, "writes behind Clear, with room for one", got, "none, ack, none, nak")
			expect(t, "Taken", listText(out.Taken()), "[data0 03, data0 05]")
		}
	}
}

// TestP7_4OneOfTwo: an endpoint of the other direction with the same number is
// neither halted nor cleared with it.
func TestP7_4OneOfTwo(t *testing.T) {
	in := made(t, endpoints.Config{Number: 1, In: true, Kind: api.Bulk, Max: 8})
	out := made(t, endpoints.Config{Number: 1, Kind: api.Bulk, Max: 8})
	s := setOf(t, in, out)
	out.Room(3)
	in.Offer([]byte{1})
	in.Offer([]byte{2})
	in.Halt()
	expect(t, "the other one is halted", hears(s, token(api.In, 5, 1), token(api.Out, 5, 1), data(api.Data0, 3)), "stall, none, ack")
	in.Clear()
	expect(t, "the other one is cleared", hears(s, token(api.Out, 5, 1), data(api.Data1, 4)), "none, ack")
	hears(s, token(api.In, 5, 1), hand(api.Ack))
	out.Halt()
	out.Clear()
	expect(t, "the toggle of the other one", hears(s, token(api.In, 5, 1)), "data1 02")
}
