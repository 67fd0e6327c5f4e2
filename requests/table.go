package requests

import (
	"math"
	"slices"

	"plugboard/api"
)

// inEndpoint is what the address of an IN endpoint has more than its number.
const inEndpoint = 0x80

// test reports whether a field is as a row of the table says.
type test func(n uint16) bool

// row is a row of the table of well-formed requests, for one code and one receiver.
type row struct {
	code                 uint8
	in                   bool
	receiver             uint8
	value, index, length test
}

// rows returns the rows of the table.
func rows() []row {
	zero, free := upTo(0), upTo(math.MaxUint16)
	interfaces, alternates := upTo(api.MaxInterfaces-1), upTo(api.MaxAlternates-1)
	return []row{
		{GetStatus, true, Device, zero, zero, exactly(statusLength)},
		{GetStatus, true, Interface, zero, interfaces, exactly(statusLength)},
		{GetStatus, true, Endpoint, zero, isEndpoint, exactly(statusLength)},
		{ClearFeature, false, Device, exactly(Wakeup), zero, zero},
		{SetFeature, false, Device, exactly(Wakeup), zero, zero},
		{ClearFeature, false, Endpoint, exactly(Halt), isEndpoint, zero},
		{SetFeature, false, Endpoint, exactly(Halt), isEndpoint, zero},
		{SetAddress, false, Device, upTo(api.MaxAddress), zero, zero},
		{GetDescriptor, true, Device, free, free, free},
		{GetDescriptor, true, Interface, free, free, free},
		{SetDescriptor, false, Device, free, free, free},
		{GetConfiguration, true, Device, zero, zero, exactly(configurationLength)},
		{SetConfiguration, false, Device, upTo(math.MaxUint8), zero, zero},
		{GetInterface, true, Interface, zero, interfaces, exactly(alternateLength)},
		{SetInterface, false, Interface, alternates, interfaces, zero},
		{SynchFrame, true, Endpoint, zero, isEndpoint, exactly(frameLength)},
	}
}

// exactly returns a test for one number.
func exactly(number uint16) test { return func(n uint16) bool { return n == number } }

// upTo returns a test for the numbers from 0 to the greatest one.
func upTo(greatest uint16) test { return func(n uint16) bool { return n <= greatest } }

// isEndpoint reports whether a number is the address of an endpoint.
func isEndpoint(n uint16) bool { return n&^inEndpoint <= api.MaxEndpoint }

// Check reports whether a standard request is well formed. (P12.3)
func Check(r api.Request) api.Errno {
	if Kind(r) != Standard {
		return api.ErrArg
	}
	if nameOf(r.Code) == "" {
		return api.ErrNone
	}
	fits := func(w row) bool {
		return w.code == r.Code && w.in == In(r) && w.receiver == Receiver(r) &&
			w.value(r.Value) && w.index(r.Index) && w.length(r.Length)
	}
	if !slices.ContainsFunc(rows(), fits) {
		return api.ErrForm
	}
	return api.OK
}
