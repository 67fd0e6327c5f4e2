package toggles_test

import (
	"bytes"
	"slices"
	"strconv"
	"strings"
	"testing"

	"plugboard/api"
	"plugboard/toggles"
)

// The exchanges.
var (
	good     = toggles.Exchange{}
	noAck    = toggles.Exchange{Ack: true}
	noData   = toggles.Exchange{Data: true}
	noneOf   = toggles.Exchange{Data: true, Ack: true}
	anything = []toggles.Exchange{good, noAck, noData, noneOf}
)

// either is both toggles.
var either = []bool{false, true}

// one returns a packet of one byte.
func one(b byte) []byte { return []byte{b} }

// numbered returns n packets of one byte, from 1 on.
func numbered(n int) [][]byte {
	out := make([][]byte, n)
	for i := range out {
		out[i] = one(byte(i + 1))
	}
	return out
}

// mixed returns a packet of n bytes that differ.
func mixed(n, from int) []byte {
	out := make([]byte, n)
	for i := range out {
		out[i] = byte(from + i*i*31 + i*7)
	}
	return out
}

// odd are packets that senders and receivers may have: empty and nil ones, equal
// ones, and some that New refuses.
func odd() [][]byte {
	return [][]byte{nil, one(1), {}, one(1), mixed(1024, 3), nil, mixed(1025, 4), mixed(5000, 5)}
}

// shown returns packets as a text, for comparison and messages.
func shown(l [][]byte) string {
	var out strings.Builder
	for i, b := range l {
		if i > 0 {
			out.WriteString(", ")
		}
		for j, v := range b {
			if j > 0 {
				out.WriteString(" ")
			}
			out.WriteString(strconv.Itoa(int(v)))
		}
		if len(b) == 0 {
			out.WriteString("empty")
		}
	}
	return out.String()
}

// brief returns packets as a text that is not too long for a message.
func brief(l [][]byte) string {
	text := shown(l)
	if len(text) > 200 {
		text = text[:200] + " .."
	}
	return strconv.Itoa(len(l)) + " packets (" + text + ")"
}

// same reports whether packets are equal, in the same order.
func same(a, b [][]byte) bool { return slices.EqualFunc(a, b, bytes.Equal) }

// expectSender compares a sender with what is expected.
func expectSender(t *testing.T, name string, s toggles.Sender, toggle bool, left [][]byte) {
	t.Helper()
	if s.Toggle != toggle || !same(s.Left, left) {
		t.Errorf("%s: toggle %t, left %s; expected %t, %s", name, s.Toggle, brief(s.Left), toggle, brief(left))
	}
}

// expectReceiver compares a receiver with what is expected.
func expectReceiver(t *testing.T, name string, r toggles.Receiver, toggle bool, got [][]byte) {
	t.Helper()
	if r.Toggle != toggle || !same(r.Got, got) {
		t.Errorf("%s: toggle %t, got %s; expected %t, %s", name, r.Toggle, brief(r.Got), toggle, brief(got))
	}
}

// mustNew returns the sender of packets.
func mustNew(t *testing.T, l ...[]byte) toggles.Sender {
	t.Helper()
	s, e := toggles.New(l...)
	if e != api.OK {
		t.Fatalf("New of %s: error %d", brief(l), e)
	}
	return s
}

// eachRun calls f with all lists of up to n exchanges.
func eachRun(n int, f func([]toggles.Exchange)) {
	var extend func(l []toggles.Exchange)
	extend = func(l []toggles.Exchange) {
		f(l)
		if len(l) == n {
			return
		}
		for _, e := range anything {
			extend(append(slices.Clone(l), e))
		}
	}
	extend(nil)
}

// eachState calls f with senders and receivers of either toggle, which have up
// to n packets left, and have taken up to n packets.
func eachState(n int, f func(toggles.Sender, toggles.Receiver)) {
	for _, sends := range either {
		for _, hears := range either {
			for left := range n + 1 {
				for got := range n + 1 {
					all := numbered(left + got)
					f(toggles.Sender{Toggle: sends, Left: all[got:]}, toggles.Receiver{Toggle: hears, Got: all[:got:got]})
				}
			}
		}
	}
}

// reference is a sender and a receiver as the chapter defines them, by numbers
// of packets: next is the one that is sent, and got are those that were taken.
type reference struct {
	next         int
	sends, hears bool
	got          []int
}

// exchange performs an exchange of a sender of n packets, by definition.
func (x *reference) exchange(e toggles.Exchange, n int) {
	if x.next == n || e.Data {
		return
	}
	if x.sends == x.hears {
		x.got = append(x.got, x.next)
		x.hears = !x.hears
	}
	if !e.Ack {
		x.next++
		x.sends = !x.sends
	}
}

// expectRun compares Run with the definition.
func expectRun(t *testing.T, s toggles.Sender, r toggles.Receiver, l []toggles.Exchange) {
	t.Helper()
	x := &reference{sends: s.Toggle, hears: r.Toggle}
	for _, e := range l {
		x.exchange(e, len(s.Left))
	}
	got := slices.Clone(r.Got)
	for _, i := range x.got {
		got = append(got, s.Left[i])
	}
	name := "Run of " + brief(s.Left) + " behind " + brief(r.Got) + ", " + losses(l)
	a, b := toggles.Run(s, r, l...)
	expectSender(t, name, a, x.sends, s.Left[x.next:])
	expectReceiver(t, name, b, x.hears, got)
}

// losses returns exchanges as a text: a letter for each.
func losses(l []toggles.Exchange) string {
	var out strings.Builder
	for _, e := range l {
		switch e {
		case good:
			out.WriteByte('g')
		case noAck:
			out.WriteByte('a')
		case noData:
			out.WriteByte('d')
		default:
			out.WriteByte('b')
		}
	}
	return "[" + out.String() + "]"
}
