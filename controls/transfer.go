package controls

import (
	"plugboard/api"
	"plugboard/transactions"
)

// stage is where a transfer is.
type stage int

// The stages, in their order.
const (
	noStage stage = iota // of the zero Transfer
	setupStage
	dataStage
	statusStage
	over
)

// mostMisses is how many transactions in succession may be without an answer
// until a transfer is over.
const mostMisses = 3

// Transfer is a control transfer at the host: a value.
type Transfer struct {
	stage    stage
	ending   api.Errno // of one that is over
	request  api.Request
	max      int
	unsent   []byte  // of a request that writes
	received *pieces // of a request that reads
	toggle   bool    // of the data stage
	misses   int     // transactions in succession that were without an answer
}

// part is what a transfer does in a stage: its next transaction, and what follows
// when that is Done.
type part struct {
	next func(t Transfer) transactions.Try
	done func(t Transfer, b []byte) Transfer
}

// Start returns a transfer; out is the data of a request that writes, max the number of bytes of a packet. (P8.3)
func Start(r api.Request, out []byte, max int) (Transfer, api.Errno) {
	if !isPossible(max) {
		return Transfer{}, api.ErrArg
	}
	length := 0
	if writes(r) {
		length = int(r.Length)
	}
	if len(out) != length {
		return Transfer{}, api.ErrWidth
	}
	return Transfer{stage: setupStage, request: r, max: max, unsent: own(out), toggle: true}, api.OK
}

// Next returns the transaction that is attempted next (with the address 0), or false if the transfer is over. (P8.4)
func Next(t Transfer) (transactions.Try, bool) {
	p, ok := t.part()
	if !ok {
		return transactions.Try{}, false
	}
	return p.next(t), true
}

// Answer returns the transfer behind the outcome of this transaction. (P8.4)
func Answer(t Transfer, o transactions.Outcome) Transfer {
	p, ok := t.part()
	if !ok {
		return t
	}
	switch o.Result {
	case transactions.None:
		t.misses++
		if t.misses == mostMisses {
			return t.end(api.ErrTime)
		}
	case transactions.Nak, transactions.Again:
		t.misses = 0
	case transactions.Stall:
		return t.end(api.ErrStall)
	case transactions.Babble:
		return t.end(api.ErrBabble)
	case transactions.Done:
		t.misses = 0
		return p.done(t, o.Data)
	}
	return t
}

// End returns the data of a request that reads, or the error of the transfer; ErrState as long as it is not over. (P8.5)
func End(t Transfer) ([]byte, api.Errno) {
	switch t.stage {
	case noStage:
		return nil, api.ErrNil
	case over:
		return t.received.bytes(), t.ending
	}
	return nil, api.ErrState
}

// part returns what a transfer does in its stage, if it is in one.
func (t Transfer) part() (part, bool) {
	parts := [over]part{
		setupStage:  {Transfer.trySetup, Transfer.afterSetup},
		dataStage:   {Transfer.tryData, Transfer.afterData},
		statusStage: {Transfer.tryStatus, Transfer.afterStatus},
	}
	if t.stage == noStage || t.stage == over {
		return part{}, false
	}
	return parts[t.stage], true
}

// end returns the transfer when it is over. With an error there is no data.
func (t Transfer) end(e api.Errno) Transfer {
	if e != api.OK {
		return Transfer{stage: over, ending: e}
	}
	return Transfer{stage: over, received: t.received}
}

// trySetup returns the transaction of the setup stage.
func (t Transfer) trySetup() transactions.Try {
	return transactions.Try{What: api.Setup, Data: Split(t.request)}
}

// afterSetup begins the data stage, if there is data, or the status stage.
func (t Transfer) afterSetup([]byte) Transfer {
	t.stage = statusStage
	if reads(t.request) || writes(t.request) {
		t.stage = dataStage
	}
	return t
}

// tryData returns a transaction of the data stage.
func (t Transfer) tryData() transactions.Try {
	if reads(t.request) {
		return transactions.Try{What: api.In, Max: t.max, Toggle: t.toggle}
	}
	return transactions.Try{What: api.Out, Data: own(t.unsent[:t.packet()]), Toggle: t.toggle}
}

// packet returns how many bytes are sent next.
func (t Transfer) packet() int { return min(t.max, len(t.unsent)) }

// afterData goes on behind a packet of data, which begins the status stage if it
// was the last one.
func (t Transfer) afterData(b []byte) Transfer {
	if !reads(t.request) {
		t.unsent = t.unsent[t.packet():]
		return t.alternate(len(t.unsent) == 0)
	}
	length := int(t.request.Length)
	if len(b) > t.max || t.received.count()+len(b) > length {
		return t.end(api.ErrBabble)
	}
	t.received = t.received.with(b)
	return t.alternate(len(b) < t.max || t.received.count() == length)
}

// alternate returns the transfer behind a packet of data that has arrived.
func (t Transfer) alternate(last bool) Transfer {
	t.toggle = !t.toggle
	if last {
		t.stage = statusStage
	}
	return t
}

// tryStatus returns the transaction of the status stage, which goes the other way
// than the data.
func (t Transfer) tryStatus() transactions.Try {
	if reads(t.request) {
		return transactions.Try{What: api.Out, Toggle: true}
	}
	return transactions.Try{What: api.In, Toggle: true}
}

// afterStatus ends the transfer. Only what was read may have too many bytes.
func (t Transfer) afterStatus(b []byte) Transfer {
	if !reads(t.request) && len(b) > 0 {
		return t.end(api.ErrBabble)
	}
	return t.end(api.OK)
}
