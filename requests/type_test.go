package requests_test

import (
	"testing"

	"plugboard/api"
	"plugboard/requests"
)

// TestP12_2Types: some values of the field Type, and their parts.
func TestP12_2Types(t *testing.T) {
	for _, c := range []struct {
		in             bool
		kind, receiver uint8
		want           uint8
	}{
		{true, requests.Class, requests.Other, 163},
		{false, requests.Standard, requests.Device, 0},
		{true, requests.Standard, requests.Device, 128},
		{false, requests.Standard, requests.Interface, 1},
		{false, requests.Standard, requests.Endpoint, 2},
		{false, requests.Class, requests.Interface, 33},
		{true, requests.Vendor, requests.Device, 192},
		{false, 3, 0, 96},
		{false, 0, 4, 4},
		{false, 0, 31, 31},
		{true, 3, 31, 255},
	} {
		if got, e := requests.Type(c.in, c.kind, c.receiver); got != c.want || e != api.OK {
			t.Errorf("Type(%t, %d, %d) = %d, error %d; expected %d", c.in, c.kind, c.receiver, got, e, c.want)
		}
	}
}

// TestP12_2Errors: all kinds and receivers there are, and ErrArg for those that are too
// great.
func TestP12_2Errors(t *testing.T) {
	for _, in := range either {
		for kind := range 256 {
			for receiver := range 256 {
				want, wantError := 32*kind+receiver, api.OK
				if in {
					want += 128
				}
				if kind > 3 || receiver > 31 {
					want, wantError = 0, api.ErrArg
				}
				if got, e := requests.Type(in, uint8(kind), uint8(receiver)); int(got) != want || e != wantError {
					t.Errorf("Type(%t, %d, %d) = %d, error %d; expected %d, error %d", in, kind, receiver, got, e, want, wantError)
				}
			}
		}
	}
}

// TestP12_2Parts: the parts of each Type, whatever the other fields are.
func TestP12_2Parts(t *testing.T) {
	for n := range 256 {
		for _, r := range []api.Request{
			{Type: uint8(n)},
			{Type: uint8(n), Code: 255, Value: 65535, Index: 65535, Length: 65535},
			{Type: uint8(n), Code: ^uint8(n), Value: 0x8020, Index: 128, Length: uint16(n)},
		} {
			in, kind, receiver := requests.In(r), requests.Kind(r), requests.Receiver(r)
			if in != (n >= 128) || int(kind) != n/32%4 || int(receiver) != n%32 {
				t.Errorf("the parts of %+v are %t, %d, %d", r, in, kind, receiver)
			}
			if got, e := requests.Type(in, kind, receiver); got != r.Type || e != api.OK {
				t.Errorf("Type of the parts of %d = %d, error %d", n, got, e)
			}
		}
	}
}
