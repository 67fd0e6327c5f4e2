package controls_test

import (
	"math"
	"slices"
	"testing"

	"plugboard/api"
	"plugboard/controls"
	"plugboard/packets"
)

// TestP8_2NewZero: packets have at most 8, 16, 32 or 64 bytes, and there is a
// Handler. The first error is that of the bytes.
func TestP8_2NewZero(t *testing.T) {
	values := []int{math.MinInt, math.MaxInt, -8, -64, 1 << 8, 1<<32 + 8}
	for i := -2; i < 1100; i++ {
		values = append(values, i)
	}
	for _, max := range values {
		possible := slices.Contains(sizes, max)
		for _, h := range []controls.Handler{nil, &keeper{}, controls.Func(nil)} {
			want := api.OK
			switch {
			case !possible:
				want = api.ErrArg
			case h == nil:
				want = api.ErrNil
			}
			z, e := controls.NewZero(max, h)
			if e != want || (z == nil) != (want != api.OK) {
				t.Errorf("NewZero of %d: error %d; expected %d", max, e, want)
			}
		}
	}
}

// TestP8_2New: a new Zero has no request, has finished none, and has not called
// its Handler.
func TestP8_2New(t *testing.T) {
	for _, max := range sizes {
		k := &keeper{}
		z := made(t, max, k)
		expect(t, "In", answerText(z.Hear(api.In, token(api.In, 0, 0))), "stall")
		expect(t, "Ack", answerText(z.Hear(api.In, hand(api.Ack))), "none")
		expect(t, "Out", answerText(z.Hear(api.Out, data(api.Data1))), "stall")
		if z.Finished() != 0 || len(k.calls) != 0 {
			t.Errorf("a new Zero has finished %d requests, after %d calls", z.Finished(), len(k.calls))
		}
	}
}

// TestP8_2Missing: a nil or zero Zero does nothing.
func TestP8_2Missing(t *testing.T) {
	var none *controls.Zero
	for _, z := range []*controls.Zero{none, {}} {
		for _, a := range []act{hearSetup(asking(inward, 8)), hearIn, hearAck, hearOut(api.Data1), hearOut(api.Data0, 1), {}} {
			expect(t, "Hear", answerText(z.Hear(a.token, a.packet)), "none")
		}
		expectError(t, "Reset", z.Reset(), api.ErrNil)
		if n := z.Finished(); n != 0 {
			t.Errorf("%d requests are finished", n)
		}
	}
}

// chapterHandler is the Handler of the examples.
func chapterHandler(r api.Request, _ []byte) ([]byte, bool) {
	return []byte{1, 2, 3, 4, 5, 6, 7, 8, 9, 10}, r.Code == 6
}

// TestP8_2Answers: what a Zero answers to the packets of the transfers of the
// examples, one after the other.
func TestP8_2Answers(t *testing.T) {
	z := made(t, 8, controls.Func(chapterHandler))
	for i, c := range []struct {
		a        act
		answer   string
		finished int
	}{
		{hearSetup(api.Request{Type: 128, Code: 6, Length: 18}), "ack", 0},
		{hearIn, "data1 0102030405060708", 0},
		{hearIn, "data1 0102030405060708", 0},
		{hearAck, "none", 0},
		{hearIn, "data0 090a", 0},
		{hearAck, "none", 0},
		{hearIn, "stall", 0},
		{hearOut(api.Data1), "ack", 1},
		{hearOut(api.Data1), "ack", 1},
		{hearSetup(api.Request{Type: 128, Code: 6, Length: 8}), "ack", 1},
		{hearOut(api.Data1), "stall", 1},
		{hearIn, "data1 0102030405060708", 1},
		{hearOut(api.Data0, 1), "ack", 1},
		{hearOut(api.Data1, 1), "stall", 1},
		{hearAck, "none", 1},
		{hearIn, "stall", 1},
		{hearOut(api.Data1), "ack", 2},
		{hearSetup(api.Request{Code: 6}), "ack", 2},
		{hearOut(api.Data1), "stall", 2},
		{hearAck, "none", 2},
		{hearIn, "data1", 2},
		{hearIn, "data1", 2},
		{hearAck, "none", 3},
		{hearAck, "none", 3},
		{hearIn, "data1", 3},
		{hearSetup(api.Request{Type: 128, Code: 7, Length: 18}), "ack", 3},
		{hearIn, "stall", 3},
		{hearAck, "none", 3},
		{hearOut(api.Data1), "stall", 3},
		{hearSetup(api.Request{Code: 6, Length: 9}), "ack", 3},
		{hearOut(api.Data0, 9, 9), "ack", 3},
		{hearOut(api.Data1, 1, 2, 3, 4, 5, 6, 7, 8), "ack", 3},
		{hearOut(api.Data1, 1, 2, 3, 4, 5, 6, 7, 8), "ack", 3},
		{hearOut(api.Data0, 9), "ack", 3},
		{hearIn, "data1", 3},
		{hearOut(api.Data0, 9), "ack", 3},
		{hearAck, "none", 4},
		{hearOut(api.Data1), "stall", 4},
		{hearIn, "stall", 4},
	} {
		expect(t, "act "+c.a.text(), answerText(z.Hear(c.a.token, c.a.packet)), c.answer)
		if z.Finished() != c.finished {
			t.Errorf("behind act %d %d are finished; expected %d", i, z.Finished(), c.finished)
		}
	}
}

// anyPackets are packets of every sort, also some with an error.
func anyPackets() []packets.Packet {
	var l []packets.Packet
	for _, pid := range []api.Pid{0, api.Out, api.Ack, api.Sof, 4, api.Nyet, api.Split, api.In, api.Nak, api.Setup, api.Stall, 255} {
		l = append(l, hand(pid))
	}
	for _, pid := range []api.Pid{api.Data0, api.Data1} {
		for _, n := range []int{0, 1, 3, 7, 8, 9, 64, 65, 1024, 1025} {
			l = append(l, data(pid, mixed(n, 1)...))
		}
		// It looks like a request that reads, writes, or has no data.
		for _, r := range []api.Request{asking(inward, 9), asking(outward, 3), asking(inward, 0)} {
			l = append(l, data(pid, byteList(r)...))
		}
	}
	return append(l,
		token(api.In, 127, 0), token(api.In, 5, 15), token(api.Out, 5, 0), token(api.Setup, 5, 0), token(api.In, 200, 99), token(api.Ack, 5, 0), data(api.Ack, 1), data(api.In, 1),
		packets.Packet{Pid: api.Data1, Addr: 5}, packets.Packet{Pid: api.Data0, Frame: 9, Data: byteList(asking(inward, 9))})
}

// anyTokens are identifiers of tokens, and others.
var anyTokens = []api.Pid{api.Setup, api.In, api.Out, 0, api.Ack, api.Data0, api.Data1, api.Sof, api.Split, 255}

// full are 8 bytes, which fill a packet.
var full = mixed(8, 40)

// states lead a Zero whose packets have 8 bytes to each state of a request.
func states(r api.Request) [][]act {
	setup := hearSetup(r)
	first, second := hearOut(api.Data1, full...), hearOut(api.Data0, full...)
	return [][]act{
		{},
		{setup},
		{setup, resets},
		{setup, hearIn},
		{setup, hearIn, resets},
		{setup, hearIn, hearAck},
		{setup, hearIn, hearAck, hearIn},
		{setup, hearIn, hearAck, hearAck},
		{setup, hearIn, hearAck, hearAck, hearAck},
		{setup, hearIn, hearOut(api.Data1)},
		{setup, hearIn, hearAck, hearOut(api.Data1)},
		{setup, hearIn, hearAck, hearOut(api.Data1), hearAck},
		{setup, first},
		{setup, second},
		{setup, hearOut(api.Data1)},
		{setup, hearOut(api.Data1, 1)},
		{setup, first, second},
		{setup, first, hearOut(api.Data0, 1)},
		{setup, first, hearOut(api.Data0, 1), hearIn},
		{setup, first, hearOut(api.Data0, 1), hearIn, hearAck},
		{setup, first, second, hearIn},
		{setup, first, second, hearIn, hearAck},
		{setup, first, hearIn},
		{setup, first, hearIn, hearAck},
		{setup, hearOut(api.Data1, mixed(9, 2)...)},
	}
}

// requests are requests that read, that write, and that have no data.
func requests() []api.Request {
	l := []api.Request{asking(inward, 0), asking(outward, 0)}
	for _, n := range []int{1, 7, 8, 9, 15, 16, 17, 24, 65535} {
		l = append(l, asking(inward, n), asking(outward, n))
	}
	return l
}

// replies are what a Handler may return for a request.
func replies(r api.Request) []reply {
	l := []reply{{nil, true}, {nil, false}, {mixed(int(r.Length)+1, 3), false}}
	for _, n := range []int{1, 7, 8, 9, 16, int(r.Length) - 1, int(r.Length), int(r.Length) + 1, int(r.Length) + 8, int(r.Length) * 2} {
		if n >= 0 {
			l = append(l, reply{mixed(n, 3), true})
		}
	}
	return l
}

// followers show what the state is behind an act.
func followers() [][]act {
	return [][]act{
		{hearIn, hearAck, hearIn, hearAck, hearIn, hearOut(api.Data1), hearIn},
		{hearAck, hearIn, hearIn},
		{hearOut(api.Data1), hearAck, hearIn, hearAck},
		{hearOut(api.Data0, 1), hearOut(api.Data1, full...), hearOut(api.Data0, full...), hearIn, hearAck},
	}
}

// TestP8_2States: each token with each packet, in each state of a request.
func TestP8_2States(t *testing.T) {
	probes := []act{resets}
	for _, token := range anyTokens {
		for _, p := range anyPackets() {
			probes = append(probes, act{token: token, packet: p})
		}
	}
	for _, r := range []api.Request{asking(inward, 0), asking(outward, 0), asking(inward, 9), asking(outward, 9), asking(inward, 16), asking(outward, 16), asking(inward, 17)} {
		for _, reply := range []reply{{mixed(9, 3), true}, {mixed(16, 3), true}, {mixed(17, 3), true}, {nil, false}} {
			for _, state := range states(r) {
				for _, probe := range probes {
					for _, follower := range followers() {
						if !expectRun(t, 8, reply, slices.Concat(state, []act{probe}, follower)) {
							return
						}
					}
				}
			}
		}
	}
}

// TestP8_2Lengths: requests with a Length of every sort, which are repeated in each
// state, and whose Handler returns data of every length.
func TestP8_2Lengths(t *testing.T) {
	for _, r := range requests() {
		for _, reply := range replies(r) {
			for _, state := range states(r) {
				for _, again := range [][]act{nil, {hearSetup(r)}, {resets}, {hearSetup(asking(r.Type^128, 8))}} {
					for _, follower := range followers() {
						if !expectRun(t, 8, reply, slices.Concat(state, again, follower)) {
							return
						}
					}
				}
			}
		}
	}
}
