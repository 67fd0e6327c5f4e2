package endpoints_test

import (
	"math"
	"strconv"
	"testing"

	"plugboard/api"
	"plugboard/endpoints"
	"plugboard/packets"
)

// write lets a host write n packets of one byte (0, 1, 2 ..) to endpoint 1, with
// alternate toggles (of an isochronous endpoint always Data0), and returns how
// many have been answered with Ack.
func write(s *endpoints.Set, kind api.Kind, n int) (done int) {
	toggle := false
	for i := range n {
		pid := api.Data0
		if toggle && kind != api.Isochronous {
			pid = api.Data1
		}
		s.Hear(token(api.Out, 5, 1))
		if answer, ok := s.Hear(data(pid, byte(i))); ok && packets.Same(answer, hand(api.Ack)) {
			done++
			toggle = !toggle
		}
	}
	return done
}

// TestP7_3Errors: rooms at their edges, for both directions. One that is refused
// leaves the room as it was.
func TestP7_3Errors(t *testing.T) {
	for _, in := range either {
		for _, kind := range allKinds {
			for _, n := range []int{math.MinInt, -4096, -1, 0, 1, 2, 4095, 4096, 4097, 8192, math.MaxInt} {
				e := made(t, endpoints.Config{Number: 1, In: in, Kind: kind, Max: 8})
				s := setOf(t, e)
				e.Room(3)
				want, space := api.OK, n
				if in || n < 0 || n > 4096 {
					want, space = api.ErrArg, 3
				}
				if in {
					space = 0
				}
				expectError(t, "Room of "+strconv.Itoa(n), e.Room(n), want)
				write(s, kind, space+2)
				if l := e.Taken(); len(l) != space {
					t.Errorf("kind %d, In %t: Room of %d behind Room of 3: %d packets taken; expected %d", kind, in, n, len(l), space)
				}
			}
		}
	}
}

// TestP7_3Used: each packet that is taken uses up room, which neither Taken nor
// Clear gives back, and the last Room counts.
func TestP7_3Used(t *testing.T) {
	for _, kind := range allKinds {
		for space := range 6 {
			for used := range 8 {
				e := made(t, endpoints.Config{Number: 1, Kind: kind, Max: 8})
				s := setOf(t, e)
				e.Room(9)
				e.Room(space)
				done := write(s, kind, used)
				left := max(space-used, 0)
				if l := e.Taken(); len(l) != space-left {
					t.Errorf("kind %d: %d of %d packets taken with room for %d", kind, len(l), used, space)
				}
				if kind != api.Isochronous && done != space-left {
					t.Errorf("kind %d: %d of %d packets acknowledged with room for %d", kind, done, used, space)
				}
				e.Clear()
				write(s, kind, 20)
				if l := e.Taken(); len(l) != left {
					t.Errorf("kind %d: %d packets taken with room for %d", kind, len(l), left)
				}
			}
		}
	}
}

// TestP7_3Taken: packets come in their order, and each once.
func TestP7_3Taken(t *testing.T) {
	for _, kind := range allKinds {
		e := made(t, endpoints.Config{Number: 1, Kind: kind, Max: 8})
		s := setOf(t, e)
		expect(t, "Taken of a new endpoint", listText(e.Taken()), "[]")
		e.Room(5)
		write(s, kind, 3)
		expect(t, "Taken", listText(e.Taken()), "[data0 00, data0 01, data0 02]")
		expect(t, "Taken again", listText(e.Taken()), "[]")
		e.Clear()
		write(s, kind, 1)
		e.Clear()
		write(s, kind, 1)
		expect(t, "Taken of equal packets", listText(e.Taken()), "[data0 00, data0 00]")
		expect(t, "Taken again", listText(e.Taken()), "[]")
	}
}

// TestP7_3Lengths: packets of each length near Max: those up to Max are taken.
func TestP7_3Lengths(t *testing.T) {
	for _, kind := range allKinds {
		for _, most := range []int{1, 2, 8, 1023, 1024} {
			for _, n := range []int{0, 1, most - 1, most, most + 1} {
				e := made(t, endpoints.Config{Number: 1, Kind: kind, Max: most})
				s := setOf(t, e)
				e.Room(1)
				p := data(api.Data0, mixed(n, 5)...)
				answer, list := "ack", "["+shown(p)+"]"
				if n > most {
					answer, list = "none", "[]"
				}
				if kind == api.Isochronous {
					answer = "none"
				}
				name := strconv.Itoa(n) + " bytes, Max " + strconv.Itoa(most)
				expect(t, name, hears(s, token(api.Out, 5, 1), p), "none, "+answer)
				expect(t, name, listText(e.Taken()), list)
			}
		}
	}
}

// TestP7_3Most: the greatest room is used up.
func TestP7_3Most(t *testing.T) {
	for _, kind := range allKinds {
		e := made(t, endpoints.Config{Number: 1, Kind: kind, Max: 1})
		s := setOf(t, e)
		expectError(t, "Room", e.Room(endpoints.MaxRoom), api.OK)
		write(s, kind, endpoints.MaxRoom+100)
		l := e.Taken()
		if len(l) != 4096 {
			t.Fatalf("kind %d: %d packets taken", kind, len(l))
		}
		for i, b := range l {
			if len(b) != 1 || b[0] != byte(i) {
				t.Fatalf("kind %d: packet %d is %v", kind, i, b)
			}
		}
	}
}
