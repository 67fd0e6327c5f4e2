package toggles_test

import (
	"math/rand"
	"slices"
	"testing"

	"plugboard/toggles"
)

// expectBeginning checks that the receiver has taken the first ones of packets,
// each once: those that the sender has not left any more, and at most one more.
// It reports whether there is one more.
func expectBeginning(t *testing.T, s toggles.Sender, r toggles.Receiver, packets [][]byte) (more bool) {
	t.Helper()
	sent := len(packets) - len(s.Left)
	if sent < 0 || !same(s.Left, packets[sent:]) {
		t.Fatalf("left are %s of %s", brief(s.Left), brief(packets))
	}
	taken := len(r.Got)
	if taken < sent || taken > sent+1 || taken > len(packets) || !same(r.Got, packets[:taken]) {
		t.Fatalf("taken are %s of %s, with %d acknowledged", brief(r.Got), brief(packets), sent)
	}
	return taken > sent
}

// expectRest checks what a sender and a receiver of packets come to if nothing
// is lost any more, without Clear and with it.
func expectRest(t *testing.T, s toggles.Sender, r toggles.Receiver, packets [][]byte) {
	t.Helper()
	more := expectBeginning(t, s, r, packets)
	sent := len(packets) - len(s.Left)
	rest := make([]toggles.Exchange, len(s.Left))
	a, b := toggles.Run(s, r, rest...)
	if len(a.Left) > 0 || !same(b.Got, packets) {
		t.Fatalf("behind good exchanges: left %s, taken %s of %s", brief(a.Left), brief(b.Got), brief(packets))
	}
	want := packets
	if more {
		want = slices.Concat(packets[:sent+1], packets[sent:])
	}
	a, b = toggles.Clear(s, r)
	a, b = toggles.Run(a, b, rest...)
	if len(a.Left) > 0 || !same(b.Got, want) {
		t.Fatalf("behind Clear and good exchanges: left %s, taken %s of %s", brief(a.Left), brief(b.Got), brief(packets))
	}
}

// TestP5_6AllRuns: all lists of some exchanges, with a few packets that differ,
// and with equal ones.
func TestP5_6AllRuns(t *testing.T) {
	for n := range 5 {
		for _, l := range [][][]byte{numbered(n), make([][]byte, n)} {
			eachRun(6, func(e []toggles.Exchange) {
				s, r := toggles.Run(mustNew(t, l...), toggles.Receiver{}, e...)
				expectRest(t, s, r, l)
			})
		}
	}
}

// TestP5_6AtAnyTime: behind each exchange of long runs, with many packets.
func TestP5_6AtAnyTime(t *testing.T) {
	source := rand.New(rand.NewSource(5))
	for range 20 {
		var packets [][]byte
		for range source.Intn(40) {
			packets = append(packets, mixed(source.Intn(30), source.Intn(256)))
		}
		s, r := mustNew(t, packets...), toggles.Receiver{}
		for range 200 {
			s, r = toggles.Run(s, r, anything[source.Intn(4)])
			expectRest(t, s, r, packets)
		}
	}
}

// TestP5_6MostPackets: the most packets arrive once, in order, however often
// something is lost.
func TestP5_6MostPackets(t *testing.T) {
	packets := make([][]byte, toggles.MaxLeft)
	for i := range packets {
		packets[i] = []byte{byte(i), byte(i >> 8)}
	}
	for _, lost := range []toggles.Exchange{noAck, noData, noneOf} {
		l := slices.Repeat([]toggles.Exchange{lost, lost, good}, toggles.MaxLeft/2)
		s, r := toggles.Run(mustNew(t, packets...), toggles.Receiver{}, l...)
		if len(s.Left) != toggles.MaxLeft/2 {
			t.Errorf("%d packets are left", len(s.Left))
		}
		expectRest(t, s, r, packets)
	}
}
