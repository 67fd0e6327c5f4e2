package toggles_test

import (
	"slices"
	"testing"

	"plugboard/toggles"
)

// expectHear compares Hear with the definition.
func expectHear(t *testing.T, r toggles.Receiver, toggle bool, b []byte) toggles.Receiver {
	t.Helper()
	hears, got := r.Toggle, r.Got
	if toggle == r.Toggle {
		hears, got = !hears, append(slices.Clone(got), b)
	}
	next, fresh := toggles.Hear(r, toggle, b)
	if fresh != (toggle == r.Toggle) {
		t.Errorf("Hear of a packet with toggle %t by a receiver with %t: %t", toggle, r.Toggle, fresh)
	}
	expectReceiver(t, "Hear", next, hears, got)
	return next
}

// TestP5_3Example: the result that the chapter lists.
func TestP5_3Example(t *testing.T) {
	next, fresh := toggles.Hear(toggles.Receiver{}, true, one(1))
	if fresh {
		t.Error("Hear takes a packet with its toggle set")
	}
	expectReceiver(t, "Hear", next, false, nil)
}

// TestP5_3Hear: receivers of either toggle, which have taken nothing, something,
// or anything, hear packets with either toggle, also empty ones and such as New
// refuses.
func TestP5_3Hear(t *testing.T) {
	for _, hears := range either {
		for _, got := range [][][]byte{nil, {}, {nil}, numbered(1), numbered(3), odd(), make([][]byte, 4096), make([][]byte, 5000)} {
			for _, toggle := range either {
				for _, b := range append(odd(), one(2)) {
					expectHear(t, toggles.Receiver{Toggle: hears, Got: got}, toggle, b)
				}
			}
		}
	}
}

// TestP5_3Repetitions: a packet that comes again is not taken, and the next one is.
func TestP5_3Repetitions(t *testing.T) {
	r := toggles.Receiver{}
	for i, b := range odd() {
		for range 3 {
			r = expectHear(t, r, i%2 == 1, b)
		}
	}
	expectReceiver(t, "repetitions", r, false, odd())
}

// TestP5_3OtherBytes: only the toggle says what is a repetition, whatever the
// bytes are.
func TestP5_3OtherBytes(t *testing.T) {
	r := expectHear(t, toggles.Receiver{}, false, one(1))
	r = expectHear(t, r, false, one(2))
	r = expectHear(t, r, true, one(1))
	expectReceiver(t, "other bytes", r, false, [][]byte{one(1), one(1)})
}

// TestP5_4Clear: senders and receivers of either toggle, with anything or nothing
// left and taken.
func TestP5_4Clear(t *testing.T) {
	expectClear := func(s toggles.Sender, r toggles.Receiver) {
		a, b := toggles.Clear(s, r)
		expectSender(t, "Clear", a, false, s.Left)
		expectReceiver(t, "Clear", b, false, r.Got)
	}
	eachState(3, expectClear)
	for _, sends := range either {
		for _, hears := range either {
			for _, l := range [][][]byte{nil, {}, {nil}, odd(), make([][]byte, 4097)} {
				expectClear(toggles.Sender{Toggle: sends, Left: l}, toggles.Receiver{Toggle: hears, Got: numbered(2)})
				expectClear(toggles.Sender{Toggle: sends, Left: numbered(2)}, toggles.Receiver{Toggle: hears, Got: l})
			}
		}
	}
}
