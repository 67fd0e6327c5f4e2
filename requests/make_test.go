package requests_test

import (
	"testing"

	"plugboard/api"
	"plugboard/requests"
)

// expectMade compares a request that was made.
func expectMade(t *testing.T, name string, got, want api.Request) {
	t.Helper()
	if got != want {
		t.Errorf("%s = %+v; expected %+v", name, got, want)
	}
}

// TestP12_4Examples: a request of each function, with fields that all differ.
func TestP12_4Examples(t *testing.T) {
	for _, c := range []struct {
		name      string
		got, want api.Request
	}{
		{"Status of the device", requests.Status(0, 0), api.Request{Type: 128, Length: 2}},
		{"Status of an interface", requests.Status(1, 5), api.Request{Type: 129, Index: 5, Length: 2}},
		{"Status of an endpoint", requests.Status(2, 0x8182), api.Request{Type: 130, Index: 0x8182, Length: 2}},
		{"Feature, cleared", requests.Feature(false, 2, 0, 129), api.Request{Type: 2, Code: 1, Index: 129}},
		{"Feature, set", requests.Feature(true, 0, 1, 0), api.Request{Code: 3, Value: 1}},
		{"Feature of another receiver", requests.Feature(true, 3, 0x0405, 0x0607), api.Request{Type: 3, Code: 3, Value: 0x0405, Index: 0x0607}},
		{"Address", requests.Address(127), api.Request{Code: 5, Value: 127}},
		{"Descriptor of the device", requests.Descriptor(1, 0, 0, 18), api.Request{Type: 128, Code: 6, Value: 256, Length: 18}},
		{"Descriptor of a text", requests.Descriptor(3, 2, 0x0409, 255), api.Request{Type: 128, Code: 6, Value: 770, Index: 0x0409, Length: 255}},
		{"Configure", requests.Configure(7), api.Request{Code: 9, Value: 7}},
		{"Configuration", requests.Configuration(), api.Request{Type: 128, Code: 8, Length: 1}},
		{"Alter", requests.Alter(3, 4), api.Request{Type: 1, Code: 11, Value: 4, Index: 3}},
		{"Alternate", requests.Alternate(6), api.Request{Type: 129, Code: 10, Index: 6, Length: 1}},
	} {
		expectMade(t, c.name, c.got, c.want)
	}
}

// TestP12_4Receivers: all receivers, of which the lowest five bits count.
func TestP12_4Receivers(t *testing.T) {
	for n := range 256 {
		receiver := uint8(n)
		for _, index := range words16() {
			expectMade(t, "Status", requests.Status(receiver, index), api.Request{Type: 128 + receiver%32, Index: index, Length: 2})
			for _, feature := range words16() {
				expectMade(t, "Feature, cleared", requests.Feature(false, receiver, feature, index), api.Request{Type: receiver % 32, Code: 1, Value: feature, Index: index})
				expectMade(t, "Feature, set", requests.Feature(true, receiver, feature, index), api.Request{Type: receiver % 32, Code: 3, Value: feature, Index: index})
			}
		}
	}
}

// TestP12_4Bytes: all arguments of one byte, alone and in pairs.
func TestP12_4Bytes(t *testing.T) {
	for n := range 256 {
		a := uint8(n)
		expectMade(t, "Address", requests.Address(a), api.Request{Code: 5, Value: uint16(n)})
		expectMade(t, "Configure", requests.Configure(a), api.Request{Code: 9, Value: uint16(n)})
		expectMade(t, "Alternate", requests.Alternate(a), api.Request{Type: 129, Code: 10, Index: uint16(n), Length: 1})
		for m := range 256 {
			b := uint8(m)
			expectMade(t, "Alter", requests.Alter(a, b), api.Request{Type: 1, Code: 11, Value: uint16(m), Index: uint16(n)})
			expectMade(t, "Descriptor", requests.Descriptor(a, b, 0x0102, 0x0304), api.Request{Type: 128, Code: 6, Value: uint16(256*n + m), Index: 0x0102, Length: 0x0304})
		}
	}
}

// TestP12_4Descriptor: all sorts of languages and lengths.
func TestP12_4Descriptor(t *testing.T) {
	for _, language := range words16() {
		for _, length := range words16() {
			expectMade(t, "Descriptor", requests.Descriptor(0, 0, language, length), api.Request{Type: 128, Code: 6, Index: language, Length: length})
			expectMade(t, "Descriptor", requests.Descriptor(255, 255, language, length), api.Request{Type: 128, Code: 6, Value: 65535, Index: language, Length: length})
		}
	}
}
