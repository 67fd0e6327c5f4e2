package endpoints_test

import (
	"math"
	"testing"

	"plugboard/api"
	"plugboard/endpoints"
)

// edges are values of Max.
var edges = []int{math.MinInt, -1024, -1, 0, 1, 2, 8, 1023, 1024, 1025, 65536, math.MaxInt}

// expectNew compares New and Config with the promise.
func expectNew(t *testing.T, c endpoints.Config) {
	t.Helper()
	numberFits := c.Number >= 1 && c.Number <= 15
	kindFits := c.Kind == api.Isochronous || c.Kind == api.Bulk || c.Kind == api.Interrupt
	e, err := endpoints.New(c)
	if numberFits && kindFits && c.Max >= 1 && c.Max <= 1024 {
		if err != api.OK || e == nil || e.Config() != c {
			t.Errorf("New of %+v: error %d, %+v", c, err, e.Config())
		}
		return
	}
	if err != api.ErrArg || e != nil {
		t.Errorf("New of %+v: error %d, an endpoint: %t; expected %d", c, err, e != nil, api.ErrArg)
	}
}

// TestP7_1New: all numbers, with all kinds; and Max at its edges.
func TestP7_1New(t *testing.T) {
	for number := range 256 {
		for kind := range 256 {
			for _, in := range either {
				for _, most := range []int{0, 1, 1024, 1025} {
					expectNew(t, endpoints.Config{Number: uint8(number), In: in, Kind: api.Kind(kind), Max: most})
				}
			}
		}
	}
	for _, number := range []uint8{0, 1, 15, 16, 255} {
		for _, kind := range append([]api.Kind{api.Control, 4, 255}, allKinds...) {
			for _, in := range either {
				for _, most := range edges {
					expectNew(t, endpoints.Config{Number: number, In: in, Kind: kind, Max: most})
				}
			}
		}
	}
}

// TestP7_1Example: the number 0 is refused.
func TestP7_1Example(t *testing.T) {
	if e, err := endpoints.New(endpoints.Config{Number: 0, In: true, Kind: api.Bulk, Max: 8}); e != nil || err != api.ErrArg {
		t.Errorf("New of the number 0: error %d", err)
	}
}

// TestP7_1Fresh: a new endpoint is not halted, has neither packets nor room, and
// its toggle is not set.
func TestP7_1Fresh(t *testing.T) {
	for _, kind := range allKinds {
		in := made(t, endpoints.Config{Number: 3, In: true, Kind: kind, Max: 4})
		out := made(t, endpoints.Config{Number: 3, Kind: kind, Max: 4})
		for _, e := range []*endpoints.Endpoint{in, out} {
			if e.Waiting() != 0 || e.Halted() || len(e.Taken()) != 0 {
				t.Errorf("new endpoint of %+v: %d waiting, halted %t", e.Config(), e.Waiting(), e.Halted())
			}
		}
		s := setOf(t, in, out)
		write := hears(s, token(api.Out, 5, 3), data(api.Data0, 1))
		in.Offer([]byte{2})
		read := hears(s, token(api.In, 5, 3))
		want := "none, nak"
		if kind == api.Isochronous {
			want = "none, none"
		}
		expect(t, "write to a new endpoint", write, want)
		expect(t, "read of a new endpoint", read, "data0 02")
		if got := listText(out.Taken()); got != "[]" {
			t.Errorf("a new endpoint without room has taken %s", got)
		}
	}
}

// TestP7_1ConfigStays: Config is the same whatever happens.
func TestP7_1ConfigStays(t *testing.T) {
	for _, in := range either {
		for _, kind := range allKinds {
			c := endpoints.Config{Number: 15, In: in, Kind: kind, Max: 1024}
			e := made(t, c)
			s := setOf(t, e)
			e.Halt()
			e.Offer([]byte{1})
			e.Room(3)
			hears(s, token(api.Out, 5, 15), data(api.Data0, 1), token(api.In, 5, 15), hand(api.Ack))
			e.Clear()
			if e.Config() != c {
				t.Errorf("Config has become %+v; expected %+v", e.Config(), c)
			}
		}
	}
}

// TestP7_1Nil: nil and zero endpoints, for all methods.
func TestP7_1Nil(t *testing.T) {
	var none *endpoints.Endpoint
	for name, e := range map[string]*endpoints.Endpoint{"nil": none, "zero": {}} {
		expectError(t, name+" Offer", e.Offer([]byte{1}), api.ErrNil)
		expectError(t, name+" Offer of nothing", e.Offer(nil), api.ErrNil)
		expectError(t, name+" Offer of too much", e.Offer(mixed(1025, 0)), api.ErrNil)
		expectError(t, name+" Room", e.Room(1), api.ErrNil)
		expectError(t, name+" Room of too many", e.Room(-1), api.ErrNil)
		expectError(t, name+" Halt", e.Halt(), api.ErrNil)
		expectError(t, name+" Clear", e.Clear(), api.ErrNil)
		if e.Config() != (endpoints.Config{}) || e.Waiting() != 0 || len(e.Taken()) != 0 || e.Halted() {
			t.Errorf("%s endpoint: %+v, %d waiting, halted %t", name, e.Config(), e.Waiting(), e.Halted())
		}
	}
}
