package controls_test

import (
	"math/rand"
	"strconv"
	"testing"

	"plugboard/api"
	"plugboard/controls"
)

// eachRun calls f with all lists of n of these acts behind a beginning, until it
// returns false.
func eachRun(n int, first []act, acts []act, f func(l []act) bool) bool {
	if n == 0 {
		return f(first)
	}
	for _, a := range acts {
		if !eachRun(n-1, append(first[:len(first):len(first)], a), acts, f) {
			return false
		}
	}
	return true
}

// TestP8_2Runs: all runs of a few acts behind the setup stage.
func TestP8_2Runs(t *testing.T) {
	for _, r := range []api.Request{asking(inward, 0), asking(outward, 0), asking(inward, 16), asking(outward, 9), asking(inward, 17)} {
		acts := []act{hearIn, hearAck, hearSetup(r), resets, hearOut(api.Data1), hearOut(api.Data0), hearOut(api.Data1, full...), hearOut(api.Data0, full...), hearOut(api.Data1, 1), hearOut(api.Data0, 1)}
		for _, reply := range []reply{{mixed(8, 3), true}, {mixed(30, 3), true}, {nil, false}} {
			eachRun(4, []act{hearSetup(r)}, acts, func(l []act) bool {
				return expectRun(t, 8, reply, l)
			})
		}
	}
}

// TestP8_2LongRuns: all runs of the acts of a good transfer, which are repeated and
// interchanged.
func TestP8_2LongRuns(t *testing.T) {
	for _, reply := range []reply{{mixed(16, 3), true}, {mixed(15, 3), true}} {
		reading := []act{hearIn, hearAck, hearOut(api.Data1)}
		eachRun(8, []act{hearSetup(asking(inward, 16))}, reading, func(l []act) bool { return expectRun(t, 8, reply, l) })
		eachRun(8, []act{hearSetup(asking(inward, 17))}, reading, func(l []act) bool { return expectRun(t, 8, reply, l) })
		writing := []act{hearIn, hearAck, hearOut(api.Data1, full...), hearOut(api.Data0, full...)}
		eachRun(6, []act{hearSetup(asking(outward, 24))}, writing, func(l []act) bool { return expectRun(t, 8, reply, l) })
		eachRun(6, []act{hearSetup(asking(outward, 0))}, writing, func(l []act) bool { return expectRun(t, 8, reply, l) })
	}
}

// TestP8_2Packets: the data of all lengths are divided into packets; the last one
// is not full, unless it ends with the byte number Length.
func TestP8_2Packets(t *testing.T) {
	for _, max := range sizes {
		for _, length := range []int{1, 2, max - 1, max, max + 1, 2*max - 1, 2 * max, 2*max + 1, 300} {
			for n := range 310 {
				l := []act{hearSetup(asking(inward, length))}
				for range 310/max + 2 {
					l = append(l, hearIn, hearIn, hearAck)
				}
				if !expectRun(t, max, reply{mixed(n, 3), true}, append(l, hearIn, hearOut(api.Data1))) {
					return
				}
			}
		}
	}
}

// TestP8_2Greatest: the greatest Length, with data of as many bytes, of more, and
// of fewer.
func TestP8_2Greatest(t *testing.T) {
	for _, max := range []int{8, 64} {
		for _, n := range []int{65535, 65536, 70000, 65528, 65472, 65529, 1} {
			l := []act{hearSetup(asking(inward, 65535))}
			for range n/max + 3 {
				l = append(l, hearIn, hearAck)
			}
			expectRun(t, max, reply{mixed(n, 3), true}, append(l, hearOut(api.Data1)))
		}
		for _, n := range []int{65535, 65536, 65534} {
			l := []act{hearSetup(asking(outward, 65535))}
			for from := 0; from < n; from += max {
				pid := api.Data1
				if from/max%2 == 1 {
					pid = api.Data0
				}
				l = append(l, hearOut(pid, mixed(min(max, n-from), from)...))
			}
			expectRun(t, max, reply{nil, true}, append(l, hearIn, hearAck, hearIn))
		}
	}
}

// TestP8_2Taken: data of all lengths is taken in packets of all lengths; more than
// max bytes in a packet, and more than Length in all, are refused.
func TestP8_2Taken(t *testing.T) {
	for _, max := range sizes {
		for _, length := range []int{1, max - 1, max, max + 1, 2 * max, 2*max + 1} {
			for first := range max + 3 {
				for second := range max + 3 {
					l := []act{hearSetup(asking(outward, length)), hearOut(api.Data1, mixed(first, 1)...), hearOut(api.Data0, mixed(second, 2)...), hearOut(api.Data1, 7), hearIn, hearAck}
					if !expectRun(t, max, reply{nil, true}, l) || !expectRun(t, max, reply{nil, true}, append(l[:3:3], hearIn, hearAck, hearIn)) {
						return
					}
				}
			}
		}
	}
}

// TestP8_2Empty: packets without data are taken, too, in their order.
func TestP8_2Empty(t *testing.T) {
	k := &keeper{reply: reply{nil, true}}
	z := made(t, 8, k)
	z.Hear(api.Setup, hearSetup(asking(outward, 2)).packet)
	for _, a := range []act{hearOut(api.Data1), hearOut(api.Data1, 9), hearOut(api.Data0, 1), hearOut(api.Data0, 9), hearOut(api.Data1), hearOut(api.Data0, 2), hearOut(api.Data1)} {
		expect(t, a.text(), answerText(z.Hear(a.token, a.packet)), "ack")
	}
	expect(t, "In", answerText(z.Hear(api.In, token(api.In, 0, 0))), "data1")
	if !sameCalls(k.calls, []call{{asking(outward, 2), []byte{1, 2}}}) {
		t.Errorf("calls: %v", k.calls)
	}
}

// TestP8_2Repeated: a setup stage that is repeated begins the request again; the
// Handler is called with it only in the data or status stage, and not twice.
func TestP8_2Repeated(t *testing.T) {
	for _, r := range []api.Request{asking(inward, 9), asking(outward, 0), asking(inward, 0)} {
		k := &keeper{reply: reply{mixed(9, 1), true}}
		z := made(t, 8, k)
		for range 5 {
			expect(t, "Setup", answerText(z.Hear(api.Setup, hearSetup(r).packet)), "ack")
		}
		if len(k.calls) != 0 {
			t.Errorf("%s: the Handler is called in the setup stage", requestText(r))
		}
		for range 5 {
			z.Hear(api.In, token(api.In, 0, 0))
			z.Hear(api.Out, data(api.Data0, 1))
			z.Hear(api.In, hand(api.Nak))
			z.Hear(api.Setup, data(api.Data1, controls.Split(r)...))
		}
		if !sameCalls(k.calls, []call{{r, nil}}) {
			t.Errorf("%s: the Handler is called %d times, or with something else", requestText(r), len(k.calls))
		}
	}
}

// TestP8_2Another: a setup stage in the midst of another request, or behind one
// that was refused, forgets what was there.
func TestP8_2Another(t *testing.T) {
	for _, r := range []api.Request{asking(inward, 20), asking(outward, 16), asking(outward, 0)} {
		for _, accepted := range []bool{true, false} {
			for i, state := range states(r) {
				k := &keeper{reply: reply{mixed(20, 1), accepted}}
				z := made(t, 8, k)
				for _, a := range state {
					if !a.reset {
						z.Hear(a.token, a.packet)
					}
				}
				k.calls, k.reply = nil, reply{[]byte{1, 2, 3}, true}
				finished := z.Finished()
				name := requestText(r) + ", state " + strconv.Itoa(i)
				expect(t, name, answerText(z.Hear(api.Setup, hearSetup(asking(inward, 4)).packet)), "ack")
				expect(t, name, answerText(z.Hear(api.In, token(api.In, 0, 0))), "data1 010203")
				expect(t, name, answerText(z.Hear(api.Out, data(api.Data1))), "ack")
				if z.Finished() != finished+1 || !sameCalls(k.calls, []call{{asking(inward, 4), nil}}) {
					t.Errorf("%s: %d are finished, %d calls", name, z.Finished(), len(k.calls))
				}
			}
		}
	}
}

// TestP8_2Reset: Reset forgets the request, but not how many were finished.
func TestP8_2Reset(t *testing.T) {
	k := &keeper{reply: reply{[]byte{1}, true}}
	z := made(t, 8, k)
	for n := range 5 {
		for _, a := range []act{hearSetup(asking(outward, 0)), hearIn, hearAck} {
			z.Hear(a.token, a.packet)
		}
		z.Hear(api.Setup, hearSetup(asking(inward, 8)).packet)
		for range 2 {
			expectError(t, "Reset", z.Reset(), api.OK)
			expect(t, "In behind Reset", answerText(z.Hear(api.In, token(api.In, 0, 0))), "stall")
			expect(t, "Out behind Reset", answerText(z.Hear(api.Out, data(api.Data1))), "stall")
			z.Hear(api.In, hand(api.Ack))
		}
		if z.Finished() != n+1 || len(k.calls) != n+1 {
			t.Errorf("%d are finished, %d calls", z.Finished(), len(k.calls))
		}
	}
}

// anyAct returns an act, mostly one of a good transfer.
func anyAct(source *rand.Rand) act {
	pid := []api.Pid{api.Data0, api.Data1}[source.Intn(2)]
	switch source.Intn(16) {
	case 0:
		return resets
	case 1, 2:
		l := []int{0, 1, 7, 8, 9, 16, 17, 40}
		return hearSetup(asking([]uint8{inward, outward}[source.Intn(2)], l[source.Intn(len(l))]))
	case 3, 4, 5:
		return hearAck
	case 6, 7:
		return hearOut(pid)
	case 8, 9:
		return hearOut(pid, full...)
	case 10:
		return hearOut(pid, mixed(source.Intn(11), 1)...)
	case 11:
		l := anyPackets()
		return act{token: anyTokens[source.Intn(len(anyTokens))], packet: l[source.Intn(len(l))]}
	}
	return hearIn
}

// TestP8_2Random: long runs of any acts.
func TestP8_2Random(t *testing.T) {
	source := rand.New(rand.NewSource(82))
	for range 4000 {
		var l []act
		for range 60 {
			l = append(l, anyAct(source))
		}
		if !expectRun(t, sizes[source.Intn(4)], reply{mixed(source.Intn(70), 3), source.Intn(8) > 0}, l) {
			return
		}
	}
}
