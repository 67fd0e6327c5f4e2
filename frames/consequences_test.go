package frames_test

import (
	"fmt"
	"math/rand"
	"slices"
	"testing"

	"plugboard/api"
	"plugboard/endpoints"
	"plugboard/frames"
	"plugboard/packets"
	"plugboard/transactions"
)

// randomTry returns a transaction by chance, now and then one with an error.
func randomTry(r *rand.Rand) transactions.Try {
	bytes := r.Intn(40)
	if r.Intn(4) == 0 {
		bytes = r.Intn(1025)
	}
	switch r.Intn(7) {
	case 0, 1:
		return transactions.Try{Endp: uint8(r.Intn(16)), What: api.In, Toggle: r.Intn(2) == 0, Max: bytes}
	case 2, 3:
		return transactions.Try{Endp: uint8(r.Intn(16)), What: api.Out, Toggle: r.Intn(2) == 0, Data: mixed(bytes, r.Intn(99))}
	case 4:
		return []transactions.Try{readsIso(bytes), writesIso(mixed(bytes, r.Intn(99))...)}[r.Intn(2)]
	case 5:
		return sets(mixed(8, r.Intn(99))...)
	}
	l := wrong()
	return l[r.Intn(len(l))]
}

// randomTries returns up to n transactions by chance.
func randomTries(r *rand.Rand, n int) []transactions.Try {
	l := make([]transactions.Try, r.Intn(n+1))
	for i := range l {
		l[i] = randomTry(r)
	}
	return l
}

// expectGreedy checks that the sum of a frame is that of the costs of the transactions
// that were performed, and within the budget, and that the next one would have exceeded
// it.
func expectGreedy(t *testing.T, s api.Speed, l []transactions.Try, budget, many, sum int) {
	t.Helper()
	all := 0
	for _, try := range l[:many] {
		all += costOf(try)
	}
	least := min(budget, budgetOf(s))
	switch {
	case all != sum:
		t.Errorf("speed %d, budget %d: %d transactions cost %d; the sum is %d", s, budget, many, all, sum)
	case many > 0 && sum > least:
		t.Errorf("speed %d, budget %d: the sum is %d", s, budget, sum)
	case many < len(l) && sum+costOf(l[many]) <= least:
		t.Errorf("speed %d, budget %d: the sum is %d, and the next one costs %d", s, budget, sum, costOf(l[many]))
	}
}

// TestP11_4Budget: transactions by chance, with budgets by chance and around the sums of
// their costs.
func TestP11_4Budget(t *testing.T) {
	r := rand.New(rand.NewSource(11))
	for range 300 {
		s := busSpeeds[r.Intn(2)]
		l := randomTries(r, 20)
		if r.Intn(4) == 0 {
			l = randomTries(r, 300)
		}
		budgets := []int{r.Intn(70000), r.Intn(3000)}
		sum := 0
		for _, try := range l {
			sum += costOf(try)
			budgets = append(budgets, sum-1, sum)
		}
		for _, budget := range budgets {
			b := newBus(t, s, friendly(), nil)
			o, sum := b.Frame(l, budget)
			expectGreedy(t, s, l, budget, len(o), sum)
		}
	}
}

// TestP11_4Every: every budget up to more than that of the speed, for some lists.
func TestP11_4Every(t *testing.T) {
	for _, s := range busSpeeds {
		l := []transactions.Try{reads(64), {}, writes(), readsIso(1024), sets(mixed(8, 1)...), reads(-1), writes(mixed(1000, 1)...)}
		for len(l) < 40 {
			l = append(l, l[:7]...)
		}
		step := 1
		if s == api.High {
			step = 3
		}
		for budget := -3; budget < budgetOf(s)+50; budget += step {
			o, sum := newBus(t, s, nil, nil).Frame(l, budget)
			expectGreedy(t, s, l, budget, len(o), sum)
		}
	}
}

// TestP11_4Model: long runs of frames by chance, with answers and faults by chance, are
// as the chapter says.
func TestP11_4Model(t *testing.T) {
	for seed := range int64(60) {
		r := rand.New(rand.NewSource(seed))
		all := replies()
		order := r.Perm(1000)
		device := func() *gadget {
			count := 0
			return &gadget{reply: func(packets.Packet) reply {
				count++
				return all[order[count%1000]%len(all)]
			}}
		}
		var faults []transactions.Fault
		for range 2000 {
			faults = append(faults, anyFault[max(0, r.Intn(20)-16)])
		}
		x := newTwins(t, busSpeeds[seed%2], device, faults)
		for i := range 60 {
			x.expectFrame(t, fmt.Sprintf("seed %d, frame %d", seed, i), randomTries(r, 12), r.Intn(4000)-100)
		}
	}
}

// TestP11_4Same: the frame numbers of both buses, behind as many ticks, are the same,
// whatever transactions the frames have; and those of the Sofs begin again behind 2047.
func TestP11_4Same(t *testing.T) {
	full, high := newBus(t, api.Full, nil, nil), newBus(t, api.High, nil, nil)
	for frame := range 3*2048 + 10 {
		l := []transactions.Try{reads(8)}[:frame%2]
		full.Frame(l, 200*(frame%3))
		for tick := range 8 {
			high.Frame(l, 200*(tick%3))
			if got := high.Trace()[0].Packet.Frame; int(got) != frame%2048 {
				t.Fatalf("tick %d of frame %d: the Sof has %d", tick, frame, got)
			}
			if int(high.Number()) != frame%2048 || high.Ticks() != 8*frame+tick+1 {
				t.Fatalf("tick %d of frame %d: %s", tick, frame, stateText(high))
			}
		}
		if full.Ticks() != high.Ticks() || full.Number() != high.Number() || int(full.Trace()[0].Packet.Frame) != frame%2048 {
			t.Fatalf("frame %d: %s, and %s", frame, stateText(full), stateText(high))
		}
	}
}

// pair is a device with an endpoint that is read, and one that is written.
type pair struct {
	set        *endpoints.Set
	keys, lamp *endpoints.Endpoint
}

// newPair returns a device with the address 5.
func newPair(t *testing.T) pair {
	t.Helper()
	keys, e := endpoints.New(endpoints.Config{Number: 1, In: true, Kind: api.Bulk, Max: 8})
	lamp, f := endpoints.New(endpoints.Config{Number: 1, Kind: api.Bulk, Max: 8})
	s := endpoints.NewSet()
	if e != api.OK || f != api.OK || s.Address(5) != api.OK || s.Use(keys, lamp) != api.OK || lamp.Room(4096) != api.OK {
		t.Fatal("no endpoints")
	}
	return pair{s, keys, lamp}
}

// link is a bus with a pair, and the host that reads and writes it in frames, as the
// sender and the receiver of layer 5 do.
type link struct {
	pair
	bus     *frames.Bus
	in, out bool // the toggles of the host
	offered int  // how many packets the device has offered
	read    [][]byte
	wrote   int // how many packets were Done
	taken   [][]byte
}

// frame performs a frame with a read and a write, of which only those that fit into the
// budget are performed.
func (l *link) frame(budget int) {
	for l.keys.Waiting() < 2 {
		l.keys.Offer([]byte{byte(l.offered), 1})
		l.offered++
	}
	o, _ := l.bus.Frame([]transactions.Try{
		{Addr: 5, Endp: 1, What: api.In, Toggle: l.in, Max: 8},
		{Addr: 5, Endp: 1, What: api.Out, Toggle: l.out, Data: []byte{byte(l.wrote), 2}},
	}, budget)
	if len(o) > 0 && o[0].Result == transactions.Done {
		l.read, l.in = append(l.read, o[0].Data), !l.in
	}
	if len(o) > 1 && o[1].Result == transactions.Done {
		l.wrote, l.out = l.wrote+1, !l.out
	}
	l.taken = append(l.taken, l.lamp.Taken()...)
}

// TestP11_4Bytes: packets that are read and written in frames, with any faults, arrive
// once, in order, however the frames cut transactions off. A Sof disturbs nothing.
func TestP11_4Bytes(t *testing.T) {
	for seed := range int64(40) {
		r := rand.New(rand.NewSource(seed))
		var faults []transactions.Fault
		for range 3000 {
			faults = append(faults, anyFault[max(0, r.Intn(12)-8)])
		}
		p := newPair(t)
		l := &link{pair: p, bus: newBus(t, busSpeeds[seed%2], p.set, transactions.NewLine(faults...))}
		for range 300 {
			l.frame(r.Intn(500))
			if n := len(l.taken); n != l.wrote && n != l.wrote+1 {
				t.Fatalf("seed %d: %d packets are taken, and %d acknowledged", seed, n, l.wrote)
			}
		}
		for i, b := range l.read {
			expect(t, fmt.Sprintf("seed %d: packet %d that was read", seed, i), fmt.Sprint(b), fmt.Sprint([]byte{byte(i), 1}))
		}
		for i, b := range l.taken {
			expect(t, fmt.Sprintf("seed %d: packet %d that was taken", seed, i), fmt.Sprint(b), fmt.Sprint([]byte{byte(i), 2}))
		}
		if len(l.read) < 15 || l.wrote < 15 {
			t.Errorf("seed %d: %d packets were read, and %d written", seed, len(l.read), l.wrote)
		}
	}
}

// TestP11_4Good: without faults each frame carries all of its transactions.
func TestP11_4Good(t *testing.T) {
	for _, s := range busSpeeds {
		p := newPair(t)
		l := &link{pair: p, bus: newBus(t, s, p.set, nil)}
		for range 100 {
			l.frame(1000)
		}
		if len(l.read) != 100 || l.wrote != 100 || len(l.taken) != 100 || !slices.Equal(l.read[99], []byte{99, 1}) {
			t.Errorf("speed %d: %d packets were read, %d written, %d taken", s, len(l.read), l.wrote, len(l.taken))
		}
		if l.bus.Ticks() != 100*stepOf(s) {
			t.Errorf("speed %d: %d ticks", s, l.bus.Ticks())
		}
	}
}
